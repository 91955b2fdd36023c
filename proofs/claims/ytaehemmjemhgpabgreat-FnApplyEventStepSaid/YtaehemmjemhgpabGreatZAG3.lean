/- Contracts and facts of functions of this program, in build order. Conditions: those stated in each. -/
import Derived.Test.YtaehemmjemhgpabGreatZAG1
import Derived.Test.YtaehemmjemhgpabGreatZAG0
import Derived.Test.YtaehemmjemhgpabGreatZAG2
import Derived.Deep.RegionHeld3
import Derived.Deep.QuietTactic
import Derived.Deep.DeepCutAuto
set_option maxRecDepth 100000
set_option maxHeartbeats 16000000
namespace Go.Proofs.YtaehemmjemhgpabGreat
open Go.RowKit
set_option linter.unusedSimpArgs false
set_option linter.unusedVariables false
theorem eqTn (a b : Option Addr) (ca cb : Nat) (xs : List Tn) (w : World) (ha : IsTn w a xs) (hb : IsTn w b xs) (hn : xs.length ≤ 1048576) :
  Calls Tryz.prog 43 #[.slice a xs.length ca, .slice b xs.length cb] w fun e w' => e = .returned (.bool true) ∧ Below w.heap.size w w' := by
 rcases ha with rfl | ⟨g, o, rfl, hc⟩
 ·go_enter Tryz.func43, Tryz.ntmps43
  go_wp2
  go_rounds 1
  go_ret; exact ⟨rfl, by go_grown⟩
 ·rcases hb with rfl | ⟨g2, o2, rfl, hc2⟩
  ·go_enter Tryz.func43, Tryz.ntmps43
   go_wp2
   go_rounds 1
   go_ret; exact ⟨rfl, by go_grown⟩
  ·have HC := Lib.hid hc
   have HD := Lib.hid hc2; clear hc hc2; go_enter Tryz.func43, Tryz.ntmps43
   go_wp2
   go_loopw [5] (fun i wr => ∃ k : Nat, k ≤ xs.length ∧ i = .int .i64 k ∧ Below w.heap.size w wr) (fun i _ => xs.length - (intOf i).toNat)
   case atStart => exact ⟨0, Nat.zero_le _, rfl, by go_grown⟩
   case round =>
    obtain ⟨k, hk, rfl, hB⟩ := hrel
    by_cases hlt : k < xs.length
    ·obtain ⟨c0, c1⟩ := tn_at HC.out hB hlt
     obtain ⟨d0, d1⟩ := tn_at HD.out hB hlt; generalize xs.getD k tn0 = hh at c0 c1 d0 d1; obtain ⟨x0, x1⟩ := hh; dsimp only at c0 c1 d0 d1; have HB := Lib.hid hB; clear hB
     have i0 : (0 : Int) ≤ (k : Int) := by omega
     have i1 : (k : Int) < (xs.length : Int) := by omega
     go_wp2_with fail
     go_quiet (fail)
     go_wp2_with fail
     go_roundw
     case rel => exact ⟨k + 1, by omega, by go_num, jqb HB.out _⟩
     case measure => simp [intOf]; omega
    ·obtain rfl : k = xs.length := by omega
     go_wp2_with fail; go_ret; exact ⟨rfl, hB⟩
theorem eqNd (a b : Option Addr) (ca cb : Nat) (xs : List Nd) (w : World) (ha : IsNd w a xs) (hb : IsNd w b xs) (hn : xs.length ≤ 1048576) :
  Calls Tryz.prog 44 #[.slice a xs.length ca, .slice b xs.length cb] w fun e w' => e = .returned (.bool true) ∧ Below w.heap.size w w' := by
 rcases ha with rfl | ⟨g, o, rfl, hc⟩
 ·go_enter Tryz.func44, Tryz.ntmps44
  go_wp2
  go_rounds 1
  go_ret; exact ⟨rfl, by go_grown⟩
 ·rcases hb with rfl | ⟨g2, o2, rfl, hc2⟩
  ·go_enter Tryz.func44, Tryz.ntmps44
   go_wp2
   go_rounds 1
   go_ret; exact ⟨rfl, by go_grown⟩
  ·have HC := Lib.hid hc
   have HD := Lib.hid hc2; clear hc hc2; go_enter Tryz.func44, Tryz.ntmps44
   go_wp2
   go_loopw [5] (fun i wr => ∃ k : Nat, k ≤ xs.length ∧ i = .int .i64 k ∧ Below w.heap.size w wr) (fun i _ => xs.length - (intOf i).toNat)
   case atStart => exact ⟨0, Nat.zero_le _, rfl, by go_grown⟩
   case round =>
    obtain ⟨k, hk, rfl, hB⟩ := hrel
    by_cases hlt : k < xs.length
    ·obtain ⟨c0, c1, c2, c3, c4⟩ := nd_at HC.out hB hlt
     obtain ⟨d0, d1, d2, d3, d4⟩ := nd_at HD.out hB hlt; generalize xs.getD k nd0 = hh at c0 c1 c2 c3 c4 d0 d1 d2 d3 d4; obtain ⟨x0, x1, x2, x3, x4⟩ := hh; dsimp only at c0 c1 c2 c3 c4 d0 d1 d2 d3 d4; have HB := Lib.hid hB; clear hB
     have i0 : (0 : Int) ≤ (k : Int) := by omega
     have i1 : (k : Int) < (xs.length : Int) := by omega
     go_wp2_with fail
     go_quiet (fail)
     go_wp2_with fail
     go_roundw
     case rel => exact ⟨k + 1, by omega, by go_num, jqb HB.out _⟩
     case measure => simp [intOf]; omega
    ·obtain rfl : k = xs.length := by omega
     go_wp2_with fail; go_ret; exact ⟨rfl, hB⟩
theorem eqAc (a b : Option Addr) (ca cb : Nat) (xs : List Ac) (w : World) (ha : IsAc w a xs) (hb : IsAc w b xs) (hn : xs.length ≤ 1048576) :
  Calls Tryz.prog 15 #[.slice a xs.length ca, .slice b xs.length cb] w fun e w' => e = .returned (.bool true) ∧ Below w.heap.size w w' := by
 rcases ha with rfl | ⟨g, o, rfl, hc⟩
 ·go_enter Tryz.func15, Tryz.ntmps15
  go_wp2
  go_rounds 1
  go_ret; exact ⟨rfl, by go_grown⟩
 ·rcases hb with rfl | ⟨g2, o2, rfl, hc2⟩
  ·go_enter Tryz.func15, Tryz.ntmps15
   go_wp2
   go_rounds 1
   go_ret; exact ⟨rfl, by go_grown⟩
  ·have HC := Lib.hid hc
   have HD := Lib.hid hc2; clear hc hc2; go_enter Tryz.func15, Tryz.ntmps15
   go_wp2
   go_loopw [5] (fun i wr => ∃ k : Nat, k ≤ xs.length ∧ i = .int .i64 k ∧ Below w.heap.size w wr) (fun i _ => xs.length - (intOf i).toNat)
   case atStart => exact ⟨0, Nat.zero_le _, rfl, by go_grown⟩
   case round =>
    obtain ⟨k, hk, rfl, hB⟩ := hrel
    by_cases hlt : k < xs.length
    ·obtain ⟨c0, c1⟩ := ac_at HC.out hB hlt
     obtain ⟨d0, d1⟩ := ac_at HD.out hB hlt; generalize xs.getD k ac0 = hh at c0 c1 d0 d1; obtain ⟨x0, x1⟩ := hh; dsimp only at c0 c1 d0 d1; have HB := Lib.hid hB; clear hB
     have i0 : (0 : Int) ≤ (k : Int) := by omega
     have i1 : (k : Int) < (xs.length : Int) := by omega
     go_wp2_with fail
     go_quiet (fail)
     go_wp2_with fail
     go_roundw
     case rel => exact ⟨k + 1, by omega, by go_num, jqb HB.out _⟩
     case measure => simp [intOf]; omega
    ·obtain rfl : k = xs.length := by omega
     go_wp2_with fail; go_ret; exact ⟨rfl, hB⟩
theorem eqTw (p q : TA) (t : Tw) (w : World) (hp : IsTw w p t) (hq : IsTw w q t) :
  Calls Tryz.prog 13 #[twV p t, twV q t] w fun e w' => e = .returned (.bool true) ∧ Below w.heap.size w w' := by
 obtain ⟨a1, c1, a2, c2, a3, c3, a4, c4⟩ := p; obtain ⟨d1, k1, d2, k2, d3, k3, d4, k4⟩ := q; obtain ⟨hs, ts, ns, r, hd, ac, rt, tm, ls, cm⟩ := t; have C1 := Lib.hid (fun W (hW : Below w.heap.size w W) => eqHd a1 d1 c1 k1 hs W (jqi hp.h1 hW) (jqi hq.h1 hW) hp.n1); have C2 := Lib.hid (fun W (hW : Below w.heap.size w W) => eqTn a2 d2 c2 k2 ts W (tn_below hp.h2 hW) (tn_below hq.h2 hW) hp.n2); have C3 := Lib.hid (fun W (hW : Below w.heap.size w W) => eqNd a3 d3 c3 k3 ns W (jx8 hp.h3 hW) (jx8 hq.h3 hW) hp.n3); have C5 := Lib.hid (fun W (hW : Below w.heap.size w W) => eqAc a4 d4 c4 k4 ac W (ac_below hp.h4 hW) (ac_below hq.h4 hW) hp.n4); clear hp hq
 show Calls _ _ #[.agg #[.slice a1 hs.length c1, .slice a2 ts.length c2, .slice a3 ns.length c3, .int .i64 r, .int .i64 hd, .slice a4 ac.length c4, .int .i64 rt, .int .i64 tm, .int .i64 ls, .int .i64 cm], .agg #[.slice d1 hs.length k1, .slice d2 ts.length k2, .slice d3 ns.length k3, .int .i64 r, .int .i64 hd, .slice d4 ac.length k4, .int .i64 rt, .int .i64 tm, .int .i64 ls, .int .i64 cm]] _ _
 go_enter Tryz.func13, Tryz.ntmps13; have KA := (Blk.new w 30 #[.slice a1 hs.length c1, .slice a2 ts.length c2, .slice a3 ns.length c3, .int .i64 r, .int .i64 hd, .slice a4 ac.length c4, .int .i64 rt, .int .i64 tm, .int .i64 ls, .int .i64 cm]).alloc (.cells #[.slice d1 hs.length k1, .slice d2 ts.length k2, .slice d3 ns.length k3, .int .i64 r, .int .i64 hd, .slice d4 ac.length k4, .int .i64 rt, .int .i64 tm, .int .i64 ls, .int .i64 cm] 30)
 have KB : Blk ((w.alloc (.cells #[.slice a1 hs.length c1, .slice a2 ts.length c2, .slice a3 ns.length c3, .int .i64 r, .int .i64 hd, .slice a4 ac.length c4, .int .i64 rt, .int .i64 tm, .int .i64 ls, .int .i64 cm] 30)).alloc (.cells #[.slice d1 hs.length k1, .slice d2 ts.length k2, .slice d3 ns.length k3, .int .i64 r, .int .i64 hd, .slice d4 ac.length k4, .int .i64 rt, .int .i64 tm, .int .i64 ls, .int .i64 cm] 30)) (w.heap.size + 1) 30 #[.slice d1 hs.length k1, .slice d2 ts.length k2, .slice d3 ns.length k3, .int .i64 r, .int .i64 hd, .slice d4 ac.length k4, .int .i64 rt, .int .i64 tm, .int .i64 ls, .int .i64 cm] := by
  have := Blk.new (w.alloc (.cells #[.slice a1 hs.length c1, .slice a2 ts.length c2, .slice a3 ns.length c3, .int .i64 r, .int .i64 hd, .slice a4 ac.length c4, .int .i64 rt, .int .i64 tm, .int .i64 ls, .int .i64 cm] 30)) 30 #[.slice d1 hs.length k1, .slice d2 ts.length k2, .slice d3 ns.length k3, .int .i64 r, .int .i64 hd, .slice d4 ac.length k4, .int .i64 rt, .int .i64 tm, .int .i64 ls, .int .i64 cm]; rw [World.size_alloc] at this; exact this
 have B : Below w.heap.size w ((w.alloc (.cells #[.slice a1 hs.length c1, .slice a2 ts.length c2, .slice a3 ns.length c3, .int .i64 r, .int .i64 hd, .slice a4 ac.length c4, .int .i64 rt, .int .i64 tm, .int .i64 ls, .int .i64 cm] 30)).alloc (.cells #[.slice d1 hs.length k1, .slice d2 ts.length k2, .slice d3 ns.length k3, .int .i64 r, .int .i64 hd, .slice d4 ac.length k4, .int .i64 rt, .int .i64 tm, .int .i64 ls, .int .i64 cm] 30)) := by go_grown
 obtain ⟨qa0, qa1, qa2, qa3, qa4, qa5, qa6, qa7, qa8, qa9⟩ := jq0 KA; obtain ⟨qb0, qb1, qb2, qb3, qb4, qb5, qb6, qb7, qb8, qb9⟩ := jq0 KB; go_wp2_with fail; refine (C1.out _ B).mono ?_; rintro e u ⟨rfl, C⟩; replace KA := KA.next C; replace KB := KB.next C; replace B := jq1 B C; clear C qa0 qa1 qa2 qa3 qa4 qa5 qa6 qa7 qa8 qa9 qb0 qb1 qb2 qb3 qb4 qb5 qb6 qb7 qb8 qb9; obtain ⟨qa0, qa1, qa2, qa3, qa4, qa5, qa6, qa7, qa8, qa9⟩ := jq0 KA; obtain ⟨qb0, qb1, qb2, qb3, qb4, qb5, qb6, qb7, qb8, qb9⟩ := jq0 KB; go_wp2_with fail; refine (C2.out _ B).mono ?_; rintro e u ⟨rfl, C⟩; replace KA := KA.next C; replace KB := KB.next C; replace B := jq1 B C; clear C qa0 qa1 qa2 qa3 qa4 qa5 qa6 qa7 qa8 qa9 qb0 qb1 qb2 qb3 qb4 qb5 qb6 qb7 qb8 qb9; obtain ⟨qa0, qa1, qa2, qa3, qa4, qa5, qa6, qa7, qa8, qa9⟩ := jq0 KA; obtain ⟨qb0, qb1, qb2, qb3, qb4, qb5, qb6, qb7, qb8, qb9⟩ := jq0 KB; go_wp2_with fail; refine (C3.out _ B).mono ?_; rintro e u ⟨rfl, C⟩; replace KA := KA.next C; replace KB := KB.next C; replace B := jq1 B C; clear C qa0 qa1 qa2 qa3 qa4 qa5 qa6 qa7 qa8 qa9 qb0 qb1 qb2 qb3 qb4 qb5 qb6 qb7 qb8 qb9; obtain ⟨qa0, qa1, qa2, qa3, qa4, qa5, qa6, qa7, qa8, qa9⟩ := jq0 KA; obtain ⟨qb0, qb1, qb2, qb3, qb4, qb5, qb6, qb7, qb8, qb9⟩ := jq0 KB; go_wp2_with fail; refine (C5.out _ B).mono ?_; rintro e u ⟨rfl, C⟩; replace KA := KA.next C; replace KB := KB.next C; replace B := jq1 B C; clear C qa0 qa1 qa2 qa3 qa4 qa5 qa6 qa7 qa8 qa9 qb0 qb1 qb2 qb3 qb4 qb5 qb6 qb7 qb8 qb9
 obtain ⟨qa0, qa1, qa2, qa3, qa4, qa5, qa6, qa7, qa8, qa9⟩ := jq0 KA; obtain ⟨qb0, qb1, qb2, qb3, qb4, qb5, qb6, qb7, qb8, qb9⟩ := jq0 KB; go_wp2_with fail; go_ret; exact ⟨jq4 (by simp), B⟩
abbrev tE : ByteArray := { data := #[] }
def hA (L : List ByteArray) : List Int := (L.drop 2).map (rdS 10000000)


end Go.Proofs.YtaehemmjemhgpabGreat
