/- Contracts and facts of functions of this program, in build order. Conditions: those stated in each. -/
import Derived.Test.YthagafkjlecagabGreatG0
import Derived.Deep.Slices
import Derived.ChangeSame
import Derived.ChangeArms
import Derived.ProofKit
import Derived.WideShapes
import Derived.Lib.SmallJoins
import Derived.Laws.Concat
import Derived.Laws.Strings2
import Derived.Deep.RegionHeld3
import Derived.Deep.DeepCutAuto
import Derived.Deep.QuietTactic
import Derived.BigQuiet
import Derived.Laws.AppendOwn
import Derived.OwnWalk
import Derived.Laws.BitsAllLaws
import Derived.Laws.BitsLemmas
import Derived.WalkLawsBesides
import Derived.OpenShut
import Derived.Deep.MidRow
set_option maxRecDepth 100000
set_option maxHeartbeats 16000000
namespace Go.Proofs.YthagafkjlecagabGreat
open Go.RowKit
set_option linter.unusedSimpArgs false
set_option linter.unusedVariables false
section
open Go.ChangeShapes Go.WideShapes Go.RowKit Go.Deep
open Go.Joins
theorem open_holds_any {H : Type} {enc : TypeId × Value → H} {w : World} {base : Nat} {spare : Nat → Bool} {held : Bool} {fuel : Nat} {cs : List Value} {x : DataW H × List MemPlace} (h : DataW.trod enc Tryz.prog w base spare held fuel 22 cs = some x) : ∃ a len cap xs, cs = [.slice a len cap] ∧ HoldsIn w a len cap xs := by
 have h2 := h
 rcases open_slice Tryz.underlying22 h with ⟨hcs, _⟩ | ⟨ad, l, c, m, n', D, Pl, hcs, _⟩
 ·subst hcs; obtain ⟨xs, hx⟩ := open_holds h2; exact ⟨_, _, _, xs, rfl, hx⟩
 ·subst hcs; obtain ⟨xs, hx⟩ := open_holds h2; exact ⟨_, _, _, xs, rfl, hx⟩
theorem open_tns_any {H : Type} {enc : TypeId × Value → H} {w : World} {base : Nat} {spare : Nat → Bool} {held : Bool} {fuel : Nat} {cs : List Value} {x : DataW H × List MemPlace} (h : DataW.trod enc Tryz.prog w base spare held fuel 23 cs = some x) : ∃ a len cap xs, cs = [.slice a len cap] ∧ TnIn w a len cap xs := by
 have h2 := h
 rcases open_slice Tryz.underlying23 h with ⟨hcs, _⟩ | ⟨ad, l, c, m, n', D, Pl, hcs, _⟩
 ·subst hcs; obtain ⟨xs, hx⟩ := open_tns h2; exact ⟨_, _, _, xs, rfl, hx⟩
 ·subst hcs; obtain ⟨xs, hx⟩ := open_tns h2; exact ⟨_, _, _, xs, rfl, hx⟩
theorem open_nds_any {H : Type} {enc : TypeId × Value → H} {w : World} {base : Nat} {spare : Nat → Bool} {held : Bool} {fuel : Nat} {cs : List Value} {x : DataW H × List MemPlace} (h : DataW.trod enc Tryz.prog w base spare held fuel 24 cs = some x) : ∃ a len cap xs, cs = [.slice a len cap] ∧ NdIn w a len cap xs := by
 have h2 := h
 rcases open_slice Tryz.underlying24 h with ⟨hcs, _⟩ | ⟨ad, l, c, m, n', D, Pl, hcs, _⟩
 ·subst hcs; obtain ⟨xs, hx⟩ := open_nds h2; exact ⟨_, _, _, xs, rfl, hx⟩
 ·subst hcs; obtain ⟨xs, hx⟩ := open_nds h2; exact ⟨_, _, _, xs, rfl, hx⟩
theorem open_acs_any {H : Type} {enc : TypeId × Value → H} {w : World} {base : Nat} {spare : Nat → Bool} {held : Bool} {fuel : Nat} {cs : List Value} {x : DataW H × List MemPlace} (h : DataW.trod enc Tryz.prog w base spare held fuel 27 cs = some x) : ∃ a len cap xs, cs = [.slice a len cap] ∧ AcIn w a len cap xs := by
 have h2 := h
 rcases open_slice Tryz.underlying27 h with ⟨hcs, _⟩ | ⟨ad, l, c, m, n', D, Pl, hcs, _⟩
 ·subst hcs; obtain ⟨xs, hx⟩ := open_acs h2; exact ⟨_, _, _, xs, rfl, hx⟩
 ·subst hcs; obtain ⟨xs, hx⟩ := open_acs h2; exact ⟨_, _, _, xs, rfl, hx⟩
structure TwIn (w : World) (p : TA) (t : Tw) : Prop where
 h1 : IsHs w p.a1 t.hs
 h2 : IsTn w p.a2 t.ts
 h3 : IsNd w p.a3 t.ns
 h4 : IsAc w p.a4 t.ac
 k1 : t.hs.length ≤ p.c1
 k2 : t.ts.length ≤ p.c2
 k3 : t.ns.length ≤ p.c3
 k4 : t.ac.length ≤ p.c4
 m1 : p.c1 ≤ maxLen
 m2 : p.c2 ≤ maxLen
 m3 : p.c3 ≤ maxLen
 m4 : p.c4 ≤ maxLen
theorem TwIn.is {w : World} {p : TA} {t : Tw} (h : TwIn w p t) (n1 : t.hs.length ≤ 1048576) (n2 : t.ts.length ≤ 1048576) (n3 : t.ns.length ≤ 1048576) (n4 : t.ac.length ≤ 1048576) : IsTw w p t := ⟨h.h1, h.h2, h.h3, h.h4, n1, n2, n3, n4, h.k1, h.k2, h.k3, h.k4⟩
theorem array10 {cs : Array Value} (h : cs.size = 10) : ∃ c0 c1 c2 c3 c4 c5 c6 c7 c8 c9, cs = #[c0, c1, c2, c3, c4, c5, c6, c7, c8, c9] := by
 obtain ⟨l⟩ := cs
 match l, h with
 | [c0, c1, c2, c3, c4, c5, c6, c7, c8, c9], _ => exact ⟨c0, c1, c2, c3, c4, c5, c6, c7, c8, c9, rfl⟩
theorem trod_int1 {H : Type} {enc : TypeId × Value → H} {w : World} {base : Nat} {spare : Nat → Bool} {held : Bool} {fuel : Nat} {c : Value} {x : DataW H × List MemPlace} (h : DataW.trod enc Tryz.prog w base spare held fuel 3 [c] = some x) : ∃ z, c = .int .i64 z := by
 obtain ⟨z, e, _, _⟩ := DataW.trod_int Tryz.underlying3 h; injection e with e; exact ⟨z, e⟩
theorem open_town {H : Type} {enc : TypeId × Value → H} {w : World} {r : Reach} {b0 base : Nat} {spare : Nat → Bool} {held : Bool} {v : Value} {d : DataW H} {p : List MemPlace} (hv : Value.okWide Tryz.prog w r b0 29 v) (h : DataW.Trod enc Tryz.prog w base spare held 29 v d p) : ∃ q t, v = twV q t ∧ TwIn w q t := by
 obtain ⟨cs, rfl, hsz⟩ := okWide_struct Tryz.underlying29 hv
 have hC : Tryz.prog.cellsOf 29 = 10 := by kernel_rfl
 obtain ⟨c0, c1, c2, c3, c4, c5, c6, c7, c8, c9, rfl⟩ := array10 (hsz.trans hC); obtain ⟨fuel, hf⟩ := h; obtain ⟨xs, n, _, hx, _, hxl, hfs⟩ := DataW.trod_struct Tryz.underlying29 hf; have hxl : xs.length = 9 := hxl
 match xs, hxl with
 | [y0, y1, y2, y3, y4, y5, y6, y7, y8], _ =>
 have s1 : Tryz.prog.cellsOf 22 = 1 := by kernel_rfl
 have s2 : Tryz.prog.cellsOf 23 = 1 := by kernel_rfl
 have s3 : Tryz.prog.cellsOf 24 = 1 := by kernel_rfl
 have s4 : Tryz.prog.cellsOf 26 = 2 := by kernel_rfl
 have s5 : Tryz.prog.cellsOf 27 = 1 := by kernel_rfl
 have s6 : Tryz.prog.cellsOf 3 = 1 := by kernel_rfl
 have g0 : DataW.trod enc Tryz.prog w base spare held n 22 (([c0, c1, c2, c3, c4, c5, c6, c7, c8, c9].drop 0).take (Tryz.prog.cellsOf 22)) = some y0 := hfs 0 _ rfl; have g1 : DataW.trod enc Tryz.prog w base spare held n 23 (([c0, c1, c2, c3, c4, c5, c6, c7, c8, c9].drop 1).take (Tryz.prog.cellsOf 23)) = some y1 := hfs 1 _ rfl; have g2 : DataW.trod enc Tryz.prog w base spare held n 24 (([c0, c1, c2, c3, c4, c5, c6, c7, c8, c9].drop 2).take (Tryz.prog.cellsOf 24)) = some y2 := hfs 2 _ rfl; have g3 : DataW.trod enc Tryz.prog w base spare held n 26 (([c0, c1, c2, c3, c4, c5, c6, c7, c8, c9].drop 3).take (Tryz.prog.cellsOf 26)) = some y3 := hfs 3 _ rfl; have g4 : DataW.trod enc Tryz.prog w base spare held n 27 (([c0, c1, c2, c3, c4, c5, c6, c7, c8, c9].drop 5).take (Tryz.prog.cellsOf 27)) = some y4 := hfs 4 _ rfl; have g5 : DataW.trod enc Tryz.prog w base spare held n 3 (([c0, c1, c2, c3, c4, c5, c6, c7, c8, c9].drop 6).take (Tryz.prog.cellsOf 3)) = some y5 := hfs 5 _ rfl; have g6 : DataW.trod enc Tryz.prog w base spare held n 3 (([c0, c1, c2, c3, c4, c5, c6, c7, c8, c9].drop 7).take (Tryz.prog.cellsOf 3)) = some y6 := hfs 6 _ rfl; have g7 : DataW.trod enc Tryz.prog w base spare held n 3 (([c0, c1, c2, c3, c4, c5, c6, c7, c8, c9].drop 8).take (Tryz.prog.cellsOf 3)) = some y7 := hfs 7 _ rfl
 have g8 : DataW.trod enc Tryz.prog w base spare held n 3 (([c0, c1, c2, c3, c4, c5, c6, c7, c8, c9].drop 9).take (Tryz.prog.cellsOf 3)) = some y8 := hfs 8 _ rfl; rw [s1] at g0; rw [s2] at g1; rw [s3] at g2; rw [s4] at g3; rw [s5] at g4; rw [s6] at g5 g6 g7 g8; change DataW.trod enc Tryz.prog w base spare held n 22 [c0] = some y0 at g0; change DataW.trod enc Tryz.prog w base spare held n 23 [c1] = some y1 at g1; change DataW.trod enc Tryz.prog w base spare held n 24 [c2] = some y2 at g2; change DataW.trod enc Tryz.prog w base spare held n 26 [c3, c4] = some y3 at g3; change DataW.trod enc Tryz.prog w base spare held n 27 [c5] = some y4 at g4; change DataW.trod enc Tryz.prog w base spare held n 3 [c6] = some y5 at g5; change DataW.trod enc Tryz.prog w base spare held n 3 [c7] = some y6 at g6; change DataW.trod enc Tryz.prog w base spare held n 3 [c8] = some y7 at g7; change DataW.trod enc Tryz.prog w base spare held n 3 [c9] = some y8 at g8; obtain ⟨a1, l1, k1, hs, e1, i1⟩ := open_holds_any g0; obtain ⟨a2, l2, k2, ts, e2, i2⟩ := open_tns_any g1; obtain ⟨a3, l3, k3, ns, e3, i3⟩ := open_nds_any g2; obtain ⟨a4, l4, k4, ac, e4, i4⟩ := open_acs_any g4; obtain ⟨rt, e5⟩ := trod_int1 g5; obtain ⟨tm, e6⟩ := trod_int1 g6; obtain ⟨ls, e7⟩ := trod_int1 g7; obtain ⟨cm, e8⟩ := trod_int1 g8; obtain ⟨z0, z1, n', _, hl, b0, b1⟩ := trod_struct2 Tryz.underlying26 g3
 replace b0 : DataW.trod enc Tryz.prog w base spare held n' 3 (([c3, c4].drop 0).take (Tryz.prog.cellsOf 3)) = some z0 := b0; replace b1 : DataW.trod enc Tryz.prog w base spare held n' 3 (([c3, c4].drop 1).take (Tryz.prog.cellsOf 3)) = some z1 := b1; rw [s6] at b0 b1; change DataW.trod enc Tryz.prog w base spare held n' 3 [c3] = some z0 at b0; change DataW.trod enc Tryz.prog w base spare held n' 3 [c4] = some z1 at b1; obtain ⟨r1, e9⟩ := trod_int1 b0; obtain ⟨hd, e10⟩ := trod_int1 b1; injection e1 with e1; injection e2 with e2; injection e3 with e3; injection e4 with e4; subst e1 e2 e3 e4 e5 e6 e7 e8 e9 e10; obtain ⟨rfl, x1, y1, m1⟩ := i1; obtain ⟨rfl, x2, y2, m2⟩ := i2; obtain ⟨rfl, x3, y3, m3⟩ := i3; obtain ⟨rfl, x4, y4, m4⟩ := i4; exact ⟨⟨a1, k1, a2, k2, a3, k3, a4, k4⟩, ⟨hs, ts, ns, r1, hd, ac, rt, tm, ls, cm⟩, rfl, ⟨x1, x2, x3, x4, y1, y2, y3, y4, m1, m2, m3, m4⟩⟩
end




structure Dd where
 k : Int
 o : Int
 t : Int
 n : Int
 d : Int
 zs : List Int
def dd0 : Dd := ⟨0, 0, 0, 0, 0, []⟩
structure Ev where
 k : Int
 dd : Dd
 at_ : Int
 nu : Int
def IsDd (w : World) (g p : Nat) (x : Dd) : Prop := ∃ (A : Option Addr) (cz : Nat), w.cell? ⟨g, p, none⟩ = some (.int .i64 x.k) ∧ w.cell? ⟨g, p + 1, none⟩ = some (.int .i64 x.o) ∧ w.cell? ⟨g, p + 2, none⟩ = some (.int .i64 x.t) ∧ w.cell? ⟨g, p + 3, none⟩ = some (.int .i64 x.n) ∧ w.cell? ⟨g, p + 4, none⟩ = some (.int .i64 x.d) ∧ w.cell? ⟨g, p + 5, none⟩ = some (.slice A x.zs.length cz) ∧ IsInts w A x.zs ∧ x.zs.length ≤ 1048576 ∧ x.zs.length ≤ cz
theorem dd_below {w w' : World} {g p : Nat} {x : Dd} (h : IsDd w g p x) (hB : Below w.heap.size w w') : IsDd w' g p x := by
 obtain ⟨A, cz, c0, c1, c2, c3, c4, c5, hi, hn, hc⟩ := h
 have kp : ∀ q v, w.cell? ⟨g, q, none⟩ = some v → w'.cell? ⟨g, q, none⟩ = some v := fun q v c => (hB.cell (p := ⟨g, q, none⟩) (World.block_lt_of_cell? w _ c)).trans c
 exact ⟨A, cz, kp _ _ c0, kp _ _ c1, kp _ _ c2, kp _ _ c3, kp _ _ c4, kp _ _ c5, ints_below hi hB, hn, hc⟩
def IsDds (w : World) (a : Option Addr) (ds : List Dd) : Prop := ds = [] ∨ ∃ g o, a = some ⟨g, o, none⟩ ∧ ∀ i, i < ds.length → IsDd w g (o + i * 6) (ds.getD i dd0)

def NewH (w : World) (hs : List Hd) (e : Ending) (w' : World) : Prop := ∃ v, e = .returned v ∧ OwnH w' w.heap.size v hs ∧ Below w.heap.size w w'
theorem icopy (a : Option Addr) (cap : Nat) (hs : List Hd) (w : World) (h : IsHs w a hs) (hn : hs.length ≤ 1048576) :
  Calls Tryz.prog 79 #[.slice a hs.length cap] w (NewH w hs) := by
 obtain ⟨i0, hi0, hz0, hz1, hz2⟩ := info_parts infoH; have HR := Lib.hid (hs_reads h); clear h; go_enter Tryz.func79, Tryz.ntmps79
 go_wp2_with (first | (at_builtin; refine wpList_append_any _ rfl (.tmp 3) (.tmp 4) _ rfl w.heap.size 103 i0 _ 3 24 Tryz.underlying39 hi0 hz0 hz1 hz2 rfl (by omega) _ 0 [] rfl ⟨rfl, .inr ⟨w.heap.size, 0, #[], rfl, Nat.le_refl _, Blk.new _ _ _, Nat.le_refl _, by unfold maxLen; omega, rfl, rfl⟩⟩ w.heap.size a hs.length cap (valsH hs) rfl (HR.out.alloc (Nat.le_refl _) _) (vals_one hs) (by unfold maxLen; omega) (by omega) (by simp) ?_; intro v1 w1 hown1 hg1 hat1))
 go_ret; refine ⟨v1, rfl, ?_, ?_⟩
 ·have := hown1
  rw [Nat.zero_add, List.nil_append] at this; exact this
 ·exact ((Below.refl _ _).alloc (Nat.le_refl _) _).grown hg1 (by simp) (fun q hq => by have e : w.heap.size = q := Option.some.inj hq; omega)
theorem own_base {w : World} {base n : Nat} {v : Value} {xs : List Value} (h : w.ownsRow (base + 1) 103 3 v n xs) : w.ownsRow base 103 3 v n xs := by
 refine ⟨h.1, ?_⟩
 rcases h.2 with h | ⟨g, cap, cur, a, b, c⟩
 ·exact .inl h
 ·exact .inr ⟨g, cap, cur, a, by omega, c⟩
theorem own_tail {w1 : World} {base m : Nat} {v1 : Value} {a b : List Hd} {k : Nat} (h : w1.ownsRow (base + 1) 103 3 v1 (k + m) (valsH a ++ valsH b)) (hk : a.length = k) (hn : b.length = m) : OwnH w1 base v1 (a ++ [] ++ b) := by
 unfold OwnH; rw [List.append_nil, List.length_append, vals_append, hk, hn]; exact own_base h
theorem own_tail2 {w1 : World} {base m : Nat} {v1 : Value} {a b : List Hd} {k : Nat} {o n d : Int} (h : w1.ownsRow (base + 1) 103 3 v1 (k + 1 + m) (valsH a ++ [.int .i64 o, .int .i64 n, .int .i64 d] ++ valsH b)) (hk : a.length = k) (hn : b.length = m) : OwnH w1 base v1 (a ++ [(o, n, d)] ++ b) := by
 unfold OwnH; rw [List.length_append, List.length_append, vals_append, vals_append, hk, hn]; exact own_base h
theorem with_raw {L : Led} (ha : Asc L) {o n d : Int} {q : Rat} {hs : List Hd} (hh : hs = rawL L) (hq : shareIs n d q) {k : Nat} (hk : k ≤ hs.length) (h1 : ∀ j, j < k → (hs.getD j hd0).1 < o) (h2 : k < hs.length → o ≤ (hs.getD k hd0).1) {s : Nat} (hsk : s = if k < hs.length ∧ (hs.getD k hd0).1 = o then k + 1 else k) :
  rawL (setL L o q) = hs.take k ++ (if n = 0 then [] else [(o, n, d)]) ++ hs.drop s := by
 rw [hsk]; clear hsk; subst hh; rw [raw_len] at hk h2 ⊢
 have g : ∀ j, j < L.length → ((rawL L).getD j hd0).1 = (L.getD j (0, 0)).1 := fun j hj => by rw [raw_get L hj]; rfl
 rw [with_set ha o q hk (fun j hj => by rw [← g j (by omega)]; exact h1 j hj) (fun hl => by rw [← g k hl]; exact h2 hl), raw_append, raw_append, raw_take, raw_drop]
 have e1 : rawL (if q = 0 then [] else [(o, q)]) = (if n = 0 then [] else [(o, n, d)]) := by
  have := shareIs_zero hq; rw [decide_eq_decide] at this
  by_cases hz : q = 0
  ·rw [if_pos hz, if_pos (this.1 hz)]; rfl
  ·rw [if_neg hz, if_neg (fun c => hz (this.2 c))]
   show [rawH (o, q)] = _
   rw [shareIs_raw hq hz]
 have e2 : skipL L o k = if k < L.length ∧ ((rawL L).getD k hd0).1 = o then k + 1 else k := by
  unfold skipL
  by_cases hl : k < L.length
  ·rw [g k hl]
  ·rw [if_neg (fun c => hl c.1), if_neg (fun c => hl c.1)]
 rw [e1, e2]
theorem icopyN (n : Nat) (a : Option Addr) (cap : Nat) (hs : List Hd) (w : World) (h : IsHs w a hs) (hl : hs.length = n) (hn : n ≤ 1048576) :
  Calls Tryz.prog 79 #[.slice a n cap] w (NewH w hs) := by
 subst hl; exact icopy a cap hs w h hn
theorem iwith (g off : Nat) (cap : Nat) (L : Led) (hs : List Hd) (o n d : Int) (q : Rat) (w : World) (hcc : ∀ i, i < hs.length → w.cell? ⟨g, off + i * 3, none⟩ = some (.int .i64 (hs.getD i hd0).1) ∧ w.cell? ⟨g, off + i * 3 + 1, none⟩ = some (.int .i64 (hs.getD i hd0).2.1) ∧ w.cell? ⟨g, off + i * 3 + 2, none⟩ = some (.int .i64 (hs.getD i hd0).2.2)) (hhs : hs = rawL L) (hn : hs.length ≤ 1000) (ha : Asc L) (hq : shareIs n d q) (h0 : 0 ≤ n) (hc : hs.length ≤ cap) :
  Calls Tryz.prog 154 #[.slice (some ⟨g, off, none⟩) hs.length cap, .int .i64 o, .agg #[.int .i64 n, .int .i64 d]] w (NewH w (rawL (setL L o q))) := by
 obtain ⟨i0, hi0, hz0, hz1, hz2⟩ := info_parts infoH; have HC := Lib.hid hcc; have HA := Lib.hid ha; have HQ := Lib.hid hq; have HH := Lib.hid hhs; clear hcc ha hq hhs; go_enter Tryz.func154, Tryz.ntmps154; go_wp2_with fail
 go_loop [7] (fun i => ∃ k : Nat, k ≤ hs.length ∧ i = .int .i64 k ∧ Hid (∀ j, j < k → (hs.getD j hd0).1 < o)) (fun i => hs.length - (intOf i).toNat)
 case atStart => exact ⟨0, Nat.zero_le _, rfl, fun j hj => by omega⟩
 case round =>
  obtain ⟨k, hk, rfl, HK⟩ := hrel
  by_cases hlt : k < hs.length
  ·have c0 := (HC.out k hlt).1
   have hgl : g < w.heap.size := World.block_lt_of_cell? w _ c0
   have hy : (hs.getD k hd0).1 < o → ∀ j, j < k + 1 → (hs.getD j hd0).1 < o := fun e j hj => by
    by_cases ej : j = k
    ·subst ej; exact e
    ·exact HK.out j (by omega)
   obtain ⟨x, hx⟩ : ∃ x, (hs.getD k hd0).1 = x := ⟨_, rfl⟩
   rw [hx] at c0 hy; have HX := Lib.hid hx; have HY := Lib.hid hy; clear hx hy
   by_cases hxo : x < o
   ·go_wp2_with fail
    go_round
    case rel => exact ⟨k + 1, by omega, by go_num, HY.out hxo⟩
    case measure => simp [intOf]; omega
   ·by_cases hxo : x = o
    ·have hxb : (x == o) = true := by simpa using hxo
     by_cases hck : cap = k + 1
     ·have hw0 := with_raw HA.out HH.out HQ.out hk HK.out (fun _ => by rw [HX.out]; omega) (s := k + 1) (by rw [if_pos ⟨hlt, by rw [HX.out]; exact hxo⟩])
      have HT : Hid (IsHs (w.alloc (.cells #[.int .i64 n, .int .i64 d] 49)) (some ⟨g, off, none⟩) (hs.take k)) := hs_below (hs_take HC.out k) (by go_grown)
      have HL : Hid ((hs.take k).length = k) := by show (hs.take k).length = k; rw [List.length_take]; omega
      have HD : Hid ((valsH hs).drop ((k + 1) * 3) = valsH (hs.drop (k + 1))) := vals_drop hs (k + 1); have HI : Hid (IsHs w (some ⟨g, off, none⟩) hs) := .inr ⟨g, off, rfl, HC.out⟩
      by_cases hz : n = 0
      ·rw [if_pos hz] at hw0
       have HW := Lib.hid hw0
       have hz' : ¬ 0 < n := by omega
       clear hw0 hz hxo; go_wp2_with fail; refine (icopyN k _ _ (hs.take k) _ HT.out HL.out (by omega)).mono ?_; rintro e w1 ⟨v1, rfl, hO1, hb⟩; have hB1 : Below w.heap.size w w1 := bel_tr (by go_grown) hb; obtain ⟨t0, t1, t2, t3, t4⟩ := blk_two ((Blk.new w 49 #[.int .i64 n, .int .i64 d]).next hb)
       have hO1' : w1.ownsRow (w.heap.size + 1) 103 3 v1 k (valsH (hs.take k)) := by
        have := hO1; unfold OwnH at this; rw [HL.out, World.size_alloc] at this; exact this
       clear hO1 hb; have BB := hB1; have c0' := (BB.cell (p := ⟨g, _, none⟩) (World.block_lt_of_cell? w _ (HC.out k hlt).1)).trans (HC.out k hlt).1; rw [HX.out] at c0'; have hr := (hs_reads HI.out).below BB; have hr2 := hr.cut (k := k + 1) (cap := cap) (by omega) (by omega); rw [HD.out, if_pos hck] at hr2
       go_wp2_with (first | (at_builtin; refine wpList_append_any _ rfl (.tmp 52) (.tmp 55) _ rfl (w.heap.size + 1) 103 i0 _ 3 24 Tryz.underlying39 hi0 hz0 hz1 hz2 rfl (by omega) v1 k (valsH (hs.take k)) rfl hO1' w.heap.size _ (hs.length - (k + 1)) _ (valsH (hs.drop (k + 1))) rfl hr2 (vals_one _) (by unfold maxLen; omega) (by omega) (by omega) ?_; intro v3 w3 hown3 hg3 hat3))
       all_goals (
        go_ret
        exact ⟨v3, rfl, by rw [HW.out]; exact own_tail hown3 HL.out (by rw [List.length_drop]), BB.grown hg3 BB.size (fun q hq => by have := (hO1'.lt q hq).1; omega)⟩)
      ·rw [if_neg hz] at hw0
       have HW := Lib.hid hw0
       have hz' : 0 < n := by omega
       clear hw0 hz hxo; go_wp2_with fail; refine (icopyN k _ _ (hs.take k) _ HT.out HL.out (by omega)).mono ?_; rintro e w1 ⟨v1, rfl, hO1, hb⟩; have hB1 : Below w.heap.size w w1 := bel_tr (by go_grown) hb; obtain ⟨t0, t1, t2, t3, t4⟩ := blk_two ((Blk.new w 49 #[.int .i64 n, .int .i64 d]).next hb)
       have hO1' : w1.ownsRow (w.heap.size + 1) 103 3 v1 k (valsH (hs.take k)) := by
        have := hO1; unfold OwnH at this; rw [HL.out, World.size_alloc] at this; exact this
       clear hO1 hb
       go_wp2_with (first | (at_builtin; refine wpList_append_own _ rfl (.tmp 31) (.tmp 35) _ rfl (w.heap.size + 1) 103 i0 _ 3 24 Tryz.underlying39 hi0 hz0 hz1 hz2 rfl (by decide) v1 k (valsH (hs.take k)) rfl (hO1'.alloc _) ⟨w1.heap.size, 0, none⟩ 1 1 [.int .i64 o, .int .i64 n, .int .i64 d] rfl rfl (new_cells w1 _ _) (vals_one [(o, n, d)]) (by unfold maxLen; omega) (by omega) (by simp; omega) ?_; intro v2 w2 hO2 hg2 hat2; have BB : Below w.heap.size w w2 := (hB1.alloc hB1.size _).grown hg2 (by simp; omega) (fun q hq => by have := (hO1'.lt q hq).1; omega); have hzz : w1.heap.size + 1 ≤ w2.heap.size := (by have := hg2.size; simpa using this); have c0' := (BB.cell (p := ⟨g, _, none⟩) (World.block_lt_of_cell? w _ (HC.out k hlt).1)).trans (HC.out k hlt).1; rw [HX.out] at c0'; have hr2 := ((hs_reads HI.out).below BB).cut (k := k + 1) (cap := cap) (by omega) (by omega); rw [HD.out, if_pos hck] at hr2) | (at_builtin; refine wpList_append_any _ rfl (.tmp 52) (.tmp 55) _ rfl (w.heap.size + 1) 103 i0 _ 3 24 Tryz.underlying39 hi0 hz0 hz1 hz2 rfl (by omega) v2 (k + 1) (valsH (hs.take k) ++ [.int .i64 o, .int .i64 n, .int .i64 d]) rfl hO2 w.heap.size _ (hs.length - (k + 1)) _ (valsH (hs.drop (k + 1))) rfl hr2 (vals_one _) (by unfold maxLen; omega) (by omega) (by omega) ?_; intro v3 w3 hown3 hg3 hat3))
       all_goals (
        go_ret
        exact ⟨v3, rfl, by rw [HW.out]; exact own_tail2 hown3 HL.out (by rw [List.length_drop]), BB.grown hg3 BB.size (fun q hq => by have := (hO2.lt q hq).1; omega)⟩)
     ·have hw0 := with_raw HA.out HH.out HQ.out hk HK.out (fun _ => by rw [HX.out]; omega) (s := k + 1) (by rw [if_pos ⟨hlt, by rw [HX.out]; exact hxo⟩])
      have HT : Hid (IsHs (w.alloc (.cells #[.int .i64 n, .int .i64 d] 49)) (some ⟨g, off, none⟩) (hs.take k)) := hs_below (hs_take HC.out k) (by go_grown)
      have HL : Hid ((hs.take k).length = k) := by show (hs.take k).length = k; rw [List.length_take]; omega
      have HD : Hid ((valsH hs).drop ((k + 1) * 3) = valsH (hs.drop (k + 1))) := vals_drop hs (k + 1); have HI : Hid (IsHs w (some ⟨g, off, none⟩) hs) := .inr ⟨g, off, rfl, HC.out⟩
      by_cases hz : n = 0
      ·rw [if_pos hz] at hw0
       have HW := Lib.hid hw0
       have hz' : ¬ 0 < n := by omega
       clear hw0 hz hxo; go_wp2_with fail; refine (icopyN k _ _ (hs.take k) _ HT.out HL.out (by omega)).mono ?_; rintro e w1 ⟨v1, rfl, hO1, hb⟩; have hB1 : Below w.heap.size w w1 := bel_tr (by go_grown) hb; obtain ⟨t0, t1, t2, t3, t4⟩ := blk_two ((Blk.new w 49 #[.int .i64 n, .int .i64 d]).next hb)
       have hO1' : w1.ownsRow (w.heap.size + 1) 103 3 v1 k (valsH (hs.take k)) := by
        have := hO1; unfold OwnH at this; rw [HL.out, World.size_alloc] at this; exact this
       clear hO1 hb; have BB := hB1; have c0' := (BB.cell (p := ⟨g, _, none⟩) (World.block_lt_of_cell? w _ (HC.out k hlt).1)).trans (HC.out k hlt).1; rw [HX.out] at c0'; have hr := (hs_reads HI.out).below BB; have hr2 := hr.cut (k := k + 1) (cap := cap) (by omega) (by omega); rw [HD.out, if_neg hck, Option.map_some, add_off] at hr2
       go_wp2_with (first | (at_builtin; refine wpList_append_any _ rfl (.tmp 52) (.tmp 55) _ rfl (w.heap.size + 1) 103 i0 _ 3 24 Tryz.underlying39 hi0 hz0 hz1 hz2 rfl (by omega) v1 k (valsH (hs.take k)) rfl hO1' w.heap.size _ (hs.length - (k + 1)) _ (valsH (hs.drop (k + 1))) rfl hr2 (vals_one _) (by unfold maxLen; omega) (by omega) (by omega) ?_; intro v3 w3 hown3 hg3 hat3))
       all_goals (
        go_ret
        exact ⟨v3, rfl, by rw [HW.out]; exact own_tail hown3 HL.out (by rw [List.length_drop]), BB.grown hg3 BB.size (fun q hq => by have := (hO1'.lt q hq).1; omega)⟩)
      ·rw [if_neg hz] at hw0
       have HW := Lib.hid hw0
       have hz' : 0 < n := by omega
       clear hw0 hz hxo; go_wp2_with fail; refine (icopyN k _ _ (hs.take k) _ HT.out HL.out (by omega)).mono ?_; rintro e w1 ⟨v1, rfl, hO1, hb⟩; have hB1 : Below w.heap.size w w1 := bel_tr (by go_grown) hb; obtain ⟨t0, t1, t2, t3, t4⟩ := blk_two ((Blk.new w 49 #[.int .i64 n, .int .i64 d]).next hb)
       have hO1' : w1.ownsRow (w.heap.size + 1) 103 3 v1 k (valsH (hs.take k)) := by
        have := hO1; unfold OwnH at this; rw [HL.out, World.size_alloc] at this; exact this
       clear hO1 hb
       go_wp2_with (first | (at_builtin; refine wpList_append_own _ rfl (.tmp 31) (.tmp 35) _ rfl (w.heap.size + 1) 103 i0 _ 3 24 Tryz.underlying39 hi0 hz0 hz1 hz2 rfl (by decide) v1 k (valsH (hs.take k)) rfl (hO1'.alloc _) ⟨w1.heap.size, 0, none⟩ 1 1 [.int .i64 o, .int .i64 n, .int .i64 d] rfl rfl (new_cells w1 _ _) (vals_one [(o, n, d)]) (by unfold maxLen; omega) (by omega) (by simp; omega) ?_; intro v2 w2 hO2 hg2 hat2; have BB : Below w.heap.size w w2 := (hB1.alloc hB1.size _).grown hg2 (by simp; omega) (fun q hq => by have := (hO1'.lt q hq).1; omega); have hzz : w1.heap.size + 1 ≤ w2.heap.size := (by have := hg2.size; simpa using this); have c0' := (BB.cell (p := ⟨g, _, none⟩) (World.block_lt_of_cell? w _ (HC.out k hlt).1)).trans (HC.out k hlt).1; rw [HX.out] at c0'; have hr2 := ((hs_reads HI.out).below BB).cut (k := k + 1) (cap := cap) (by omega) (by omega); rw [HD.out, if_neg hck, Option.map_some, add_off] at hr2) | (at_builtin; refine wpList_append_any _ rfl (.tmp 52) (.tmp 55) _ rfl (w.heap.size + 1) 103 i0 _ 3 24 Tryz.underlying39 hi0 hz0 hz1 hz2 rfl (by omega) v2 (k + 1) (valsH (hs.take k) ++ [.int .i64 o, .int .i64 n, .int .i64 d]) rfl hO2 w.heap.size _ (hs.length - (k + 1)) _ (valsH (hs.drop (k + 1))) rfl hr2 (vals_one _) (by unfold maxLen; omega) (by omega) (by omega) ?_; intro v3 w3 hown3 hg3 hat3))
       all_goals (
        go_ret
        exact ⟨v3, rfl, by rw [HW.out]; exact own_tail2 hown3 HL.out (by rw [List.length_drop]), BB.grown hg3 BB.size (fun q hq => by have := (hO2.lt q hq).1; omega)⟩)
 
    ·have hxb : (x == o) = false := by simpa using hxo
     have hck : ¬ cap = k := by omega
     ·have hw0 := with_raw HA.out HH.out HQ.out hk HK.out (fun _ => by rw [HX.out]; omega) (s := k) (by rw [if_neg (fun c => absurd c.2 (by rw [HX.out]; omega))])
      have HT : Hid (IsHs (w.alloc (.cells #[.int .i64 n, .int .i64 d] 49)) (some ⟨g, off, none⟩) (hs.take k)) := hs_below (hs_take HC.out k) (by go_grown)
      have HL : Hid ((hs.take k).length = k) := by show (hs.take k).length = k; rw [List.length_take]; omega
      have HD : Hid ((valsH hs).drop ((k) * 3) = valsH (hs.drop (k))) := vals_drop hs (k); have HI : Hid (IsHs w (some ⟨g, off, none⟩) hs) := .inr ⟨g, off, rfl, HC.out⟩
      by_cases hz : n = 0
      ·rw [if_pos hz] at hw0
       have HW := Lib.hid hw0
       have hz' : ¬ 0 < n := by omega
       clear hw0 hz; go_wp2_with fail; refine (icopyN k _ _ (hs.take k) _ HT.out HL.out (by omega)).mono ?_; rintro e w1 ⟨v1, rfl, hO1, hb⟩; have hB1 : Below w.heap.size w w1 := bel_tr (by go_grown) hb; obtain ⟨t0, t1, t2, t3, t4⟩ := blk_two ((Blk.new w 49 #[.int .i64 n, .int .i64 d]).next hb)
       have hO1' : w1.ownsRow (w.heap.size + 1) 103 3 v1 k (valsH (hs.take k)) := by
        have := hO1; unfold OwnH at this; rw [HL.out, World.size_alloc] at this; exact this
       clear hO1 hb; have BB := hB1; have c0' := (BB.cell (p := ⟨g, _, none⟩) (World.block_lt_of_cell? w _ (HC.out k hlt).1)).trans (HC.out k hlt).1; rw [HX.out] at c0'; have hr := (hs_reads HI.out).below BB; have hr2 := hr.cut (k := k) (cap := cap) (by omega) (by omega); rw [HD.out, if_neg hck, Option.map_some, add_off] at hr2
       go_wp2_with (first | (at_builtin; refine wpList_append_any _ rfl (.tmp 52) (.tmp 55) _ rfl (w.heap.size + 1) 103 i0 _ 3 24 Tryz.underlying39 hi0 hz0 hz1 hz2 rfl (by omega) v1 k (valsH (hs.take k)) rfl hO1' w.heap.size _ (hs.length - (k)) _ (valsH (hs.drop (k))) rfl hr2 (vals_one _) (by unfold maxLen; omega) (by omega) (by omega) ?_; intro v3 w3 hown3 hg3 hat3))
       all_goals (
        go_ret
        exact ⟨v3, rfl, by rw [HW.out]; exact own_tail hown3 HL.out (by rw [List.length_drop]), BB.grown hg3 BB.size (fun q hq => by have := (hO1'.lt q hq).1; omega)⟩)
      ·rw [if_neg hz] at hw0
       have HW := Lib.hid hw0
       have hz' : 0 < n := by omega
       clear hw0 hz; go_wp2_with fail; refine (icopyN k _ _ (hs.take k) _ HT.out HL.out (by omega)).mono ?_; rintro e w1 ⟨v1, rfl, hO1, hb⟩; have hB1 : Below w.heap.size w w1 := bel_tr (by go_grown) hb; obtain ⟨t0, t1, t2, t3, t4⟩ := blk_two ((Blk.new w 49 #[.int .i64 n, .int .i64 d]).next hb)
       have hO1' : w1.ownsRow (w.heap.size + 1) 103 3 v1 k (valsH (hs.take k)) := by
        have := hO1; unfold OwnH at this; rw [HL.out, World.size_alloc] at this; exact this
       clear hO1 hb
       go_wp2_with (first | (at_builtin; refine wpList_append_own _ rfl (.tmp 31) (.tmp 35) _ rfl (w.heap.size + 1) 103 i0 _ 3 24 Tryz.underlying39 hi0 hz0 hz1 hz2 rfl (by decide) v1 k (valsH (hs.take k)) rfl (hO1'.alloc _) ⟨w1.heap.size, 0, none⟩ 1 1 [.int .i64 o, .int .i64 n, .int .i64 d] rfl rfl (new_cells w1 _ _) (vals_one [(o, n, d)]) (by unfold maxLen; omega) (by omega) (by simp; omega) ?_; intro v2 w2 hO2 hg2 hat2; have BB : Below w.heap.size w w2 := (hB1.alloc hB1.size _).grown hg2 (by simp; omega) (fun q hq => by have := (hO1'.lt q hq).1; omega); have hzz : w1.heap.size + 1 ≤ w2.heap.size := (by have := hg2.size; simpa using this); have c0' := (BB.cell (p := ⟨g, _, none⟩) (World.block_lt_of_cell? w _ (HC.out k hlt).1)).trans (HC.out k hlt).1; rw [HX.out] at c0'; have hr2 := ((hs_reads HI.out).below BB).cut (k := k) (cap := cap) (by omega) (by omega); rw [HD.out, if_neg hck, Option.map_some, add_off] at hr2) | (at_builtin; refine wpList_append_any _ rfl (.tmp 52) (.tmp 55) _ rfl (w.heap.size + 1) 103 i0 _ 3 24 Tryz.underlying39 hi0 hz0 hz1 hz2 rfl (by omega) v2 (k + 1) (valsH (hs.take k) ++ [.int .i64 o, .int .i64 n, .int .i64 d]) rfl hO2 w.heap.size _ (hs.length - (k)) _ (valsH (hs.drop (k))) rfl hr2 (vals_one _) (by unfold maxLen; omega) (by omega) (by omega) ?_; intro v3 w3 hown3 hg3 hat3))
       all_goals (
        go_ret
        exact ⟨v3, rfl, by rw [HW.out]; exact own_tail2 hown3 HL.out (by rw [List.length_drop]), BB.grown hg3 BB.size (fun q hq => by have := (hO2.lt q hq).1; omega)⟩)
 
  ·by_cases hck : cap = k
   ·have hw0 := with_raw HA.out HH.out HQ.out hk HK.out (fun c => absurd c hlt) (s := k) (by rw [if_neg (fun c => absurd c.1 (by omega))])
    have HT : Hid (IsHs (w.alloc (.cells #[.int .i64 n, .int .i64 d] 49)) (some ⟨g, off, none⟩) (hs.take k)) := hs_below (hs_take HC.out k) (by go_grown)
    have HL : Hid ((hs.take k).length = k) := by show (hs.take k).length = k; rw [List.length_take]; omega
    have HD : Hid ((valsH hs).drop ((k) * 3) = valsH (hs.drop (k))) := vals_drop hs (k); have HI : Hid (IsHs w (some ⟨g, off, none⟩) hs) := .inr ⟨g, off, rfl, HC.out⟩
    by_cases hz : n = 0
    ·rw [if_pos hz] at hw0
     have HW := Lib.hid hw0
     have hz' : ¬ 0 < n := by omega
     clear hw0 hz; go_wp2_with fail; refine (icopyN k _ _ (hs.take k) _ HT.out HL.out (by omega)).mono ?_; rintro e w1 ⟨v1, rfl, hO1, hb⟩; have hB1 : Below w.heap.size w w1 := bel_tr (by go_grown) hb; obtain ⟨t0, t1, t2, t3, t4⟩ := blk_two ((Blk.new w 49 #[.int .i64 n, .int .i64 d]).next hb)
     have hO1' : w1.ownsRow (w.heap.size + 1) 103 3 v1 k (valsH (hs.take k)) := by
      have := hO1; unfold OwnH at this; rw [HL.out, World.size_alloc] at this; exact this
     clear hO1 hb; have BB := hB1; have hr := (hs_reads HI.out).below BB; have hr2 := hr.cut (k := k) (cap := cap) (by omega) (by omega); rw [HD.out, if_pos hck] at hr2
     go_wp2_with (first | (at_builtin; refine wpList_append_any _ rfl (.tmp 52) (.tmp 55) _ rfl (w.heap.size + 1) 103 i0 _ 3 24 Tryz.underlying39 hi0 hz0 hz1 hz2 rfl (by omega) v1 k (valsH (hs.take k)) rfl hO1' w.heap.size _ (hs.length - (k)) _ (valsH (hs.drop (k))) rfl hr2 (vals_one _) (by unfold maxLen; omega) (by omega) (by omega) ?_; intro v3 w3 hown3 hg3 hat3))
     all_goals (
      go_ret
      exact ⟨v3, rfl, by rw [HW.out]; exact own_tail hown3 HL.out (by rw [List.length_drop]), BB.grown hg3 BB.size (fun q hq => by have := (hO1'.lt q hq).1; omega)⟩)
    ·rw [if_neg hz] at hw0
     have HW := Lib.hid hw0
     have hz' : 0 < n := by omega
     clear hw0 hz; go_wp2_with fail; refine (icopyN k _ _ (hs.take k) _ HT.out HL.out (by omega)).mono ?_; rintro e w1 ⟨v1, rfl, hO1, hb⟩; have hB1 : Below w.heap.size w w1 := bel_tr (by go_grown) hb; obtain ⟨t0, t1, t2, t3, t4⟩ := blk_two ((Blk.new w 49 #[.int .i64 n, .int .i64 d]).next hb)
     have hO1' : w1.ownsRow (w.heap.size + 1) 103 3 v1 k (valsH (hs.take k)) := by
      have := hO1; unfold OwnH at this; rw [HL.out, World.size_alloc] at this; exact this
     clear hO1 hb
     go_wp2_with (first | (at_builtin; refine wpList_append_own _ rfl (.tmp 31) (.tmp 35) _ rfl (w.heap.size + 1) 103 i0 _ 3 24 Tryz.underlying39 hi0 hz0 hz1 hz2 rfl (by decide) v1 k (valsH (hs.take k)) rfl (hO1'.alloc _) ⟨w1.heap.size, 0, none⟩ 1 1 [.int .i64 o, .int .i64 n, .int .i64 d] rfl rfl (new_cells w1 _ _) (vals_one [(o, n, d)]) (by unfold maxLen; omega) (by omega) (by simp; omega) ?_; intro v2 w2 hO2 hg2 hat2; have BB : Below w.heap.size w w2 := (hB1.alloc hB1.size _).grown hg2 (by simp; omega) (fun q hq => by have := (hO1'.lt q hq).1; omega); have hzz : w1.heap.size + 1 ≤ w2.heap.size := (by have := hg2.size; simpa using this); have hr2 := ((hs_reads HI.out).below BB).cut (k := k) (cap := cap) (by omega) (by omega); rw [HD.out, if_pos hck] at hr2) | (at_builtin; refine wpList_append_any _ rfl (.tmp 52) (.tmp 55) _ rfl (w.heap.size + 1) 103 i0 _ 3 24 Tryz.underlying39 hi0 hz0 hz1 hz2 rfl (by omega) v2 (k + 1) (valsH (hs.take k) ++ [.int .i64 o, .int .i64 n, .int .i64 d]) rfl hO2 w.heap.size _ (hs.length - (k)) _ (valsH (hs.drop (k))) rfl hr2 (vals_one _) (by unfold maxLen; omega) (by omega) (by omega) ?_; intro v3 w3 hown3 hg3 hat3))
     all_goals (
      go_ret
      exact ⟨v3, rfl, by rw [HW.out]; exact own_tail2 hown3 HL.out (by rw [List.length_drop]), BB.grown hg3 BB.size (fun q hq => by have := (hO2.lt q hq).1; omega)⟩)
   ·have hw0 := with_raw HA.out HH.out HQ.out hk HK.out (fun c => absurd c hlt) (s := k) (by rw [if_neg (fun c => absurd c.1 (by omega))])
    have HT : Hid (IsHs (w.alloc (.cells #[.int .i64 n, .int .i64 d] 49)) (some ⟨g, off, none⟩) (hs.take k)) := hs_below (hs_take HC.out k) (by go_grown)
    have HL : Hid ((hs.take k).length = k) := by show (hs.take k).length = k; rw [List.length_take]; omega
    have HD : Hid ((valsH hs).drop ((k) * 3) = valsH (hs.drop (k))) := vals_drop hs (k); have HI : Hid (IsHs w (some ⟨g, off, none⟩) hs) := .inr ⟨g, off, rfl, HC.out⟩
    by_cases hz : n = 0
    ·rw [if_pos hz] at hw0
     have HW := Lib.hid hw0
     have hz' : ¬ 0 < n := by omega
     clear hw0 hz; go_wp2_with fail; refine (icopyN k _ _ (hs.take k) _ HT.out HL.out (by omega)).mono ?_; rintro e w1 ⟨v1, rfl, hO1, hb⟩; have hB1 : Below w.heap.size w w1 := bel_tr (by go_grown) hb; obtain ⟨t0, t1, t2, t3, t4⟩ := blk_two ((Blk.new w 49 #[.int .i64 n, .int .i64 d]).next hb)
     have hO1' : w1.ownsRow (w.heap.size + 1) 103 3 v1 k (valsH (hs.take k)) := by
      have := hO1; unfold OwnH at this; rw [HL.out, World.size_alloc] at this; exact this
     clear hO1 hb; have BB := hB1; have hr := (hs_reads HI.out).below BB; have hr2 := hr.cut (k := k) (cap := cap) (by omega) (by omega); rw [HD.out, if_neg hck, Option.map_some, add_off] at hr2
     go_wp2_with (first | (at_builtin; refine wpList_append_any _ rfl (.tmp 52) (.tmp 55) _ rfl (w.heap.size + 1) 103 i0 _ 3 24 Tryz.underlying39 hi0 hz0 hz1 hz2 rfl (by omega) v1 k (valsH (hs.take k)) rfl hO1' w.heap.size _ (hs.length - (k)) _ (valsH (hs.drop (k))) rfl hr2 (vals_one _) (by unfold maxLen; omega) (by omega) (by omega) ?_; intro v3 w3 hown3 hg3 hat3))
     all_goals (
      go_ret
      exact ⟨v3, rfl, by rw [HW.out]; exact own_tail hown3 HL.out (by rw [List.length_drop]), BB.grown hg3 BB.size (fun q hq => by have := (hO1'.lt q hq).1; omega)⟩)
    ·rw [if_neg hz] at hw0
     have HW := Lib.hid hw0
     have hz' : 0 < n := by omega
     clear hw0 hz; go_wp2_with fail; refine (icopyN k _ _ (hs.take k) _ HT.out HL.out (by omega)).mono ?_; rintro e w1 ⟨v1, rfl, hO1, hb⟩; have hB1 : Below w.heap.size w w1 := bel_tr (by go_grown) hb; obtain ⟨t0, t1, t2, t3, t4⟩ := blk_two ((Blk.new w 49 #[.int .i64 n, .int .i64 d]).next hb)
     have hO1' : w1.ownsRow (w.heap.size + 1) 103 3 v1 k (valsH (hs.take k)) := by
      have := hO1; unfold OwnH at this; rw [HL.out, World.size_alloc] at this; exact this
     clear hO1 hb
     go_wp2_with (first | (at_builtin; refine wpList_append_own _ rfl (.tmp 31) (.tmp 35) _ rfl (w.heap.size + 1) 103 i0 _ 3 24 Tryz.underlying39 hi0 hz0 hz1 hz2 rfl (by decide) v1 k (valsH (hs.take k)) rfl (hO1'.alloc _) ⟨w1.heap.size, 0, none⟩ 1 1 [.int .i64 o, .int .i64 n, .int .i64 d] rfl rfl (new_cells w1 _ _) (vals_one [(o, n, d)]) (by unfold maxLen; omega) (by omega) (by simp; omega) ?_; intro v2 w2 hO2 hg2 hat2; have BB : Below w.heap.size w w2 := (hB1.alloc hB1.size _).grown hg2 (by simp; omega) (fun q hq => by have := (hO1'.lt q hq).1; omega); have hzz : w1.heap.size + 1 ≤ w2.heap.size := (by have := hg2.size; simpa using this); have hr2 := ((hs_reads HI.out).below BB).cut (k := k) (cap := cap) (by omega) (by omega); rw [HD.out, if_neg hck, Option.map_some, add_off] at hr2) | (at_builtin; refine wpList_append_any _ rfl (.tmp 52) (.tmp 55) _ rfl (w.heap.size + 1) 103 i0 _ 3 24 Tryz.underlying39 hi0 hz0 hz1 hz2 rfl (by omega) v2 (k + 1) (valsH (hs.take k) ++ [.int .i64 o, .int .i64 n, .int .i64 d]) rfl hO2 w.heap.size _ (hs.length - (k)) _ (valsH (hs.drop (k))) rfl hr2 (vals_one _) (by unfold maxLen; omega) (by omega) (by omega) ?_; intro v3 w3 hown3 hg3 hat3))
     all_goals (
      go_ret
      exact ⟨v3, rfl, by rw [HW.out]; exact own_tail2 hown3 HL.out (by rw [List.length_drop]), BB.grown hg3 BB.size (fun q hq => by have := (hO2.lt q hq).1; omega)⟩)
def ShareV (w : World) (hs : List Hd) (o : Int) (e : Ending) (w' : World) : Prop := e = .returned (.agg #[.int .i64 (shR hs o).1, .int .i64 (shR hs o).2]) ∧ Below w.heap.size w w'
theorem shR_hit {hs : List Hd} {o : Int} {k : Nat} (hk : k < hs.length) (h : ∀ j, j < k → (hs.getD j hd0).1 ≠ o) {n d : Int} (he : hs.getD k hd0 = (o, n, d)) : shR hs o = (n, d) := by
 rw [shR_at hk h (by rw [he]), he]
theorem ishare (a : Option Addr) (cap : Nat) (hs : List Hd) (o : Int) (w : World) (h : IsHs w a hs) (hn : hs.length ≤ 1048576) :
  Calls Tryz.prog 161 #[.slice a hs.length cap, .int .i64 o] w (ShareV w hs o) := by
 rcases h with rfl | ⟨g, off, rfl, hc⟩
 ·go_enter Tryz.func161, Tryz.ntmps161
  go_wp2_with fail; refine wp_loop_rounds 1 ?_; rw [rounds_succ]; go_wp2_with fail; refine (inoShare _).mono ?_; rintro e w1 ⟨rfl, hb⟩; obtain ⟨t0, t1, t2, t3, t4⟩ := blk_two ((Blk.new w 49 #[.int .i64 0, .int .i64 0]).next hb); have hB := bel_tr ((Below.refl w.heap.size w).alloc (Nat.le_refl _) _) hb; clear hb; go_wp2_with fail; exact bodyPost_ret (v := .agg #[.int .i64 0, .int .i64 1]) (by simp [results, Tryz.results161, go_sem, t0, t1]) rfl ⟨rfl, (hB.setCell (by simp) _).setCell (by simp) _⟩
 ·have HC := Lib.hid hc
  clear hc; go_enter Tryz.func161, Tryz.ntmps161; go_wp2_with fail
  go_loopw [9] (fun i wr => ∃ k : Nat, k ≤ hs.length ∧ i = .int .i64 k ∧ Hid (∀ j, j < k → (hs.getD j hd0).1 ≠ o) ∧ Blk wr w.heap.size 49 #[.int .i64 0, .int .i64 0] ∧ Below w.heap.size w wr) (fun i _ => hs.length - (intOf i).toNat)
  case atStart => exact ⟨0, Nat.zero_le _, rfl, fun j hj => by omega, Blk.new _ _ _, by go_grown⟩
  case round =>
   obtain ⟨k, hk, rfl, HK, hS, hB⟩ := hrel
   by_cases hlt : k < hs.length
   ·obtain ⟨c0, c1, c2⟩ := cells_at HC.out hB hlt
    have hy : (hs.getD k hd0).1 ≠ o → ∀ j, j < k + 1 → (hs.getD j hd0).1 ≠ o := fun e j hj => by
     by_cases ej : j = k
     ·subst ej; exact e
     ·exact HK.out j (by omega)
    have hh2 : ∀ n d : Int, hs.getD k hd0 = (o, n, d) → shR hs o = (n, d) := fun n d e => shR_hit hlt HK.out e
    generalize hs.getD k hd0 = hh at c0 c1 c2 hy hh2; obtain ⟨x, n, d⟩ := hh; dsimp only at c0 c1 c2 hy; obtain ⟨t0, t1, t2, t3, t4⟩ := blk_two hS; have HY := Lib.hid hy; have HH := Lib.hid hh2; have HS := Lib.hid hS; have HB := Lib.hid hB; clear hy hh2 hS hB
    by_cases hx : x = o
    ·have e : (x == o) = true := by simpa using hx
     have HR : Hid (shR hs o = (n, d)) := HH.out n d (by rw [hx]); clear hx; go_wp2_with fail; exact bodyPost_ret (v := .agg #[.int .i64 n, .int .i64 d]) (by simp [results, Tryz.results161, go_sem, t0, t1, t4]) rfl ⟨by rw [HR.out], (((HB.out.setCell (by simp) _).setCell (by simp) _).alloc (by simpa using HB.out.size) _)⟩
    ·have e : (x == o) = false := by simpa using hx
     go_wp2_with fail
     go_roundw
     case rel => exact ⟨k + 1, by omega, by go_num, HY.out hx, HS.out.alloc _, HB.out.alloc HB.out.size _⟩
     case measure => simp [intOf]; omega
   ·have HN : Hid (shR hs o = (0, 1)) := shR_none (fun j hj => HK.out j (by omega))
    obtain ⟨t0, t1, t2, t3, t4⟩ := blk_two hS; go_wp2_with fail; refine (inoShare _).mono ?_; rintro e w1 ⟨rfl, hb⟩; obtain ⟨t0, t1, t2, t3, t4⟩ := blk_two (hS.next hb); have hB1 := bel_tr hB hb; clear hb hS; go_wp2_with fail; exact bodyPost_ret (v := .agg #[.int .i64 0, .int .i64 1]) (by simp [results, Tryz.results161, go_sem, t0, t1]) rfl ⟨by rw [HN.out], (hB1.setCell (by simp) _).setCell (by simp) _⟩
theorem sshare (a : Option Addr) (cap : Nat) (hs : List Hd) (o : Int) (w : World) (h : IsHs w a hs) (hn : hs.length ≤ 1048576) :
  Calls Tryz.prog 91 #[.slice a hs.length cap, .int .i64 o] w (ShareV w hs o) := by
 rcases h with rfl | ⟨g, off, rfl, hc⟩
 ·go_enter Tryz.func91, Tryz.ntmps91
  go_wp2_with fail; refine wp_loop_rounds 1 ?_; rw [rounds_succ]; go_wp2_with fail; exact bodyPost_ret (v := .agg #[.int .i64 0, .int .i64 1]) (by simp [results, Tryz.results91, go_sem]) rfl ⟨rfl, by go_grown⟩
 ·have HC := Lib.hid hc
  clear hc; go_enter Tryz.func91, Tryz.ntmps91; go_wp2_with fail
  go_loopw [5] (fun i wr => ∃ k : Nat, k ≤ hs.length ∧ i = .int .i64 k ∧ Hid (∀ j, j < k → (hs.getD j hd0).1 ≠ o) ∧ Blk wr w.heap.size 49 #[.int .i64 0, .int .i64 0] ∧ Below w.heap.size w wr) (fun i _ => hs.length - (intOf i).toNat)
  case atStart => exact ⟨0, Nat.zero_le _, rfl, fun j hj => by omega, Blk.new _ _ _, by go_grown⟩
  case round =>
   obtain ⟨k, hk, rfl, HK, hS, hB⟩ := hrel
   by_cases hlt : k < hs.length
   ·obtain ⟨c0, c1, c2⟩ := cells_at HC.out hB hlt
    have hy : (hs.getD k hd0).1 ≠ o → ∀ j, j < k + 1 → (hs.getD j hd0).1 ≠ o := fun e j hj => by
     by_cases ej : j = k
     ·subst ej; exact e
     ·exact HK.out j (by omega)
    have hh2 : ∀ n d : Int, hs.getD k hd0 = (o, n, d) → shR hs o = (n, d) := fun n d e => shR_hit hlt HK.out e
    generalize hs.getD k hd0 = hh at c0 c1 c2 hy hh2; obtain ⟨x, n, d⟩ := hh; dsimp only at c0 c1 c2 hy; obtain ⟨t0, t1, t2, t3, t4⟩ := blk_two hS; have HY := Lib.hid hy; have HH := Lib.hid hh2; have HS := Lib.hid hS; have HB := Lib.hid hB; clear hy hh2 hS hB
    by_cases hx : x = o
    ·have e : (x == o) = true := by simpa using hx
     have HR : Hid (shR hs o = (n, d)) := HH.out n d (by rw [hx]); clear hx; go_wp2_with fail; exact bodyPost_ret (v := .agg #[.int .i64 n, .int .i64 d]) (by simp [results, Tryz.results91, go_sem, t0, t1]) rfl ⟨by rw [HR.out], ((HB.out.setCell (by simp) _).setCell (by simp) _)⟩
    ·have e : (x == o) = false := by simpa using hx
     go_wp2_with fail
     go_roundw
     case rel => exact ⟨k + 1, by omega, by go_num, HY.out hx, HS.out, HB.out⟩
     case measure => simp [intOf]; omega
   ·have HN : Hid (shR hs o = (0, 1)) := shR_none (fun j hj => HK.out j (by omega))
    obtain ⟨t0, t1, t2, t3, t4⟩ := blk_two hS; go_wp2_with fail; exact bodyPost_ret (v := .agg #[.int .i64 0, .int .i64 1]) (by simp [results, Tryz.results91, go_sem, t0, t1]) rfl ⟨by rw [HN.out], (hB.setCell (by simp) _).setCell (by simp) _⟩
theorem cell_next {w w' : World} {p : Addr} {v : Value} (hb : Below w.heap.size w w') (h : w.cell? p = some v) : w'.cell? p = some v := (hb.cell (World.block_lt_of_cell? w _ h)).trans h
theorem keep4 {w w' : World} {p q r s : Addr} {u v x y : Value} (hb : Below w.heap.size w w') (h : w.cell? p = some u ∧ w.cell? q = some v ∧ w.cell? r = some x ∧ w.cell? s = some y) : w'.cell? p = some u ∧ w'.cell? q = some v ∧ w'.cell? r = some x ∧ w'.cell? s = some y := ⟨cell_next hb h.1, cell_next hb h.2.1, cell_next hb h.2.2.1, cell_next hb h.2.2.2⟩
def allQ (hs : List Hd) : Bool := (List.range hs.length).all (fun j => frB (sumQ hs (j + 1)))
theorem saddQ {an ad bn bd x y : Int} {b : Bool} (w : World) (ha : Wsh.vfB an ad = true) (hb : Wsh.vfB bn bd = true) (hr : Wsh.redB (an * bd + bn * ad) (ad * bd) = b) (hx : Wsh.rn (an * bd + bn * ad) (ad * bd) = x) (hy : Wsh.rd (an * bd + bn * ad) (ad * bd) = y) :
  Calls Tryz.prog 116 #[.agg #[.int .i64 an, .int .i64 ad], .agg #[.int .i64 bn, .int .i64 bd]] w fun e w' => e = .returned (.tuple #[.agg #[.int .i64 (Wsh.qn b x), .int .i64 (Wsh.qn b y)], .bool b]) ∧ Below w.heap.size w w' := by
 have := sadd an ad bn bd w ha hb; rw [hr, hx, hy] at this; exact this
def SumV (w : World) (hs : List Hd) (e : Ending) (w' : World) : Prop := e = .returned (.tuple #[.agg #[.int .i64 (Wsh.qn (allQ hs) (sumQ hs hs.length).num), .int .i64 (Wsh.qn (allQ hs) ((sumQ hs hs.length).den : Int))], .bool (allQ hs)]) ∧ Below w.heap.size w w'
theorem ssumOf (a : Option Addr) (cap : Nat) (hs : List Hd) (w : World) (h : IsHs w a hs) (hn : hs.length ≤ 1048576) (hF : allF hs = true) :
    Calls Tryz.prog 88 #[.slice a hs.length cap] w (SumV w hs) := by
  have HF := Lib.hid ((rng_all _ _).1 hF); clear hF
  rcases h with rfl | ⟨g, off, rfl, hc⟩
  · go_enter Tryz.func88, Tryz.ntmps88
    go_wp2_with fail; refine wp_loop_rounds 1 ?_; rw [rounds_succ]; go_wp2_with fail; exact bodyPost_ret (v := .tuple #[.agg #[.int .i64 0, .int .i64 1], .bool true]) (by simp [results, Tryz.results88, go_sem]) rfl ⟨rfl, by go_grown⟩
  · have HC := Lib.hid hc
    clear hc; go_enter Tryz.func88, Tryz.ntmps88; go_wp2_with fail
    go_loopw [5, 6] (fun b i wr => ∃ (k : Nat) (c : Bool), k ≤ hs.length ∧ i = .int .i64 k ∧ b = .bool c ∧ Hid (∀ j, j < k → c = true → frB (sumQ hs (j + 1)) = true) ∧ Hid (c = false → ∃ j, j < k ∧ frB (sumQ hs (j + 1)) = false) ∧
        Blk wr w.heap.size 49 #[.int .i64 0, .int .i64 0] ∧ Blk wr (w.heap.size + 1) 49 #[.int .i64 (Wsh.qn c (sumQ hs k).num), .int .i64 (Wsh.qn c ((sumQ hs k).den : Int))] ∧ Below w.heap.size w wr) (fun _ i _ => hs.length - (intOf i).toNat)
    case atStart => exact ⟨0, true, Nat.zero_le _, rfl, rfl, fun j hj => by omega, (fun c => by cases c), (Blk.new _ _ _).alloc _, by have := Blk.new (w.alloc (.cells #[.int .i64 0, .int .i64 0] 49)) 49 #[.int .i64 0, .int .i64 1]; rw [World.size_alloc] at this; exact this, by go_grown⟩
    case round =>
      obtain ⟨k, c, hk, rfl, rfl, HK, HN, hR, hS, hB⟩ := hrel
      cases c with
      | false =>
        have hq : allQ hs = false := by
          obtain ⟨j, hj, hf⟩ := HN.out rfl; exact rng_no (by omega) hf
        have HQ := Lib.hid hq; obtain ⟨t0, t1, t2, t3, t4⟩ := blk_two hS; obtain ⟨r0, r1, r2, r3, r4⟩ := blk_two hR; clear hq hS hR; rw [Wsh.qn_false] at t0 t1; go_wp2_with fail
        all_goals exact bodyPost_ret (v := .tuple #[.agg #[.int .i64 0, .int .i64 0], .bool false]) (by simp [results, Tryz.results88, go_sem, r0, r1]) rfl ⟨by rw [HQ.out]; rfl, (hB.setCell (by simp) _).setCell (by simp) _⟩
      | true =>
        by_cases hlt : k < hs.length
        · obtain ⟨c0, c1, c2⟩ := cells_at HC.out hB hlt
          have hf := (okF_is (HF.out k hlt)).1; have sr := sum_red hlt hf
          have qf : Wsh.vfB (sumQ hs k).num ((sumQ hs k).den : Int) = true := by
            cases k with
            | zero => exact q_vf frB_zero
            | succ k => exact q_vf (HK.out k (by omega) rfl)
          have y2 : ∀ c, frB (sumQ hs (k + 1)) = c → (∀ j, j < k + 1 → c = true → frB (sumQ hs (j + 1)) = true) ∧ (c = false → ∃ j, j < k + 1 ∧ frB (sumQ hs (j + 1)) = false) := fun c e => by
            refine ⟨fun j hj ct => ?_, fun cf => ⟨k, by omega, by rw [e, cf]⟩⟩
            by_cases ej : j = k
            · subst ej; rw [e, ct]
            · exact HK.out j (by omega) rfl
          obtain ⟨sr1, sr2, sr3⟩ := sr; generalize hcc : frB (sumQ hs (k + 1)) = cc at sr1 y2; have y3 := y2 cc rfl; generalize hs.getD k hd0 = hh at c0 c1 c2 hf sr1 sr2 sr3; obtain ⟨x, n, d⟩ := hh; dsimp only at c0 c1 c2 hf sr1 sr2 sr3; have A1 := Lib.hid sr1; have A2 := Lib.hid sr2; have A3 := Lib.hid sr3; have A4 := Lib.hid qf; have A5 := Lib.hid hf; have A6 := Lib.hid y3; have HS := Lib.hid hS; have HR := Lib.hid hR; have HB := Lib.hid hB; obtain ⟨t0, t1, t2, t3, t4⟩ := blk_two hS; clear sr1 sr2 sr3 qf hf y2 y3 hS hR hB hcc
          have hgne : g ≠ w.heap.size + 1 := by have := World.block_lt_of_cell? w _ (HC.out k hlt).1; dsimp only at this; omega
          have i0 : (0 : Int) ≤ (k : Int) := by omega
          have i1 : (k : Int) < (hs.length : Int) := by omega
          go_wp2_with fail
          go_region_with (first | (go_at_call 116; refine (saddQ _ A4.out A5.out A1.out A2.out A3.out).mono ?_; rintro e w3 ⟨rfl, hb⟩; obtain ⟨t0, t1, t2, t3, t4⟩ := blk_two (HS.out.drew.next hb)))
          all_goals (
            have hB3 := bel_tr HB.out.drew hb; have hR3 := HR.out.drew.next hb; have hS3 := HS.out.drew.next hb; go_wp2_with fail
            go_roundw
            case rel => exact ⟨k + 1, cc, by omega, by go_num, rfl, A6.out.1, A6.out.2, (hR3.far (by simp) _).far (by simp) _, hS3.two _ _, (hB3.setCell (by simp) _).setCell (by simp) _⟩
            case measure => simp [intOf]; omega)
        · obtain rfl : hs.length = k := by omega
          have hq : allQ hs = true := rng_yes (fun j hj => HK.out j hj rfl); have HQ := Lib.hid hq; obtain ⟨t0, t1, t2, t3, t4⟩ := blk_two hS; obtain ⟨r0, r1, r2, r3, r4⟩ := blk_two hR; clear hq hS hR; rw [Wsh.qn_true] at t0 t1; go_wp2_with fail; exact bodyPost_ret (v := .tuple #[.agg #[.int .i64 (sumQ hs hs.length).num, .int .i64 ((sumQ hs hs.length).den : Int)], .bool true]) (by simp [results, Tryz.results88, go_sem, r0, r1]) rfl ⟨by rw [HQ.out]; rfl, (hB.setCell (by simp) _).setCell (by simp) _⟩
theorem vf_boolN {n d : Int} (h : Wsh.vfB n d = false) (w : World) : Calls Tryz.prog 87 #[.agg #[.int .i64 n, .int .i64 d]] w fun e w' => e = .returned (.bool false) ∧ Below w.heap.size w w' := by
 have := svalid n d w; rw [h] at this; exact this
theorem vf_boolY {n d : Int} (h : Wsh.vfB n d = true) (w : World) : Calls Tryz.prog 87 #[.agg #[.int .i64 n, .int .i64 d]] w fun e w' => e = .returned (.bool true) ∧ Below w.heap.size w w' := by
 have := svalid n d w; rw [h] at this; exact this
theorem vl_all {hs : List Hd} (h1 : ascB hs = true) (h2 : allF hs = true) : vlR hs = (allQ hs && decide (sumQ hs hs.length = 1) && decide (hs.length ≤ 12)) := by
 have e : allS hs = allQ hs := by
  unfold allS allQ; rw [Bool.eq_iff_iff, rng_all, rng_all]; unfold allF at h2; rw [rng_all] at h2; exact ⟨fun h j hj => (okS_is (h j hj)).2, fun h j hj => okS_yes (h2 j hj) (h j hj)⟩
 unfold vlR; rw [h1, e]
 cases allQ hs <;> cases decide (sumQ hs hs.length = 1) <;> cases decide (hs.length ≤ 12) <;> rfl
theorem vl_noF {hs : List Hd} {k : Nat} (hk : k < hs.length) (h : okF hs k = false) : vlR hs = false := vl_no2 hk (okS_no h)
theorem vl_noA {hs : List Hd} {k : Nat} (hk : k < hs.length) (h : okA hs k = false) : vlR hs = false := vl_no1 (rng_no hk h)
def mkS (s : Int) (n : Nat) : List Int := (List.range n).map fun (i : Nat) => s + (i : Int)
theorem mkS_len (s : Int) (n : Nat) : (mkS s n).length = n := by unfold mkS; simp
theorem mkS_get (s : Int) (n : Nat) {k : Nat} (h : k < n) : (mkS s n).getD k 0 = s + (k : Int) := by
 unfold mkS; rw [List.getD_eq_getElem?_getD, List.getElem?_map, List.getElem?_range h]; rfl
def mkTo (s : Int) (zs : List Int) (j : Nat) : List Int := (List.range zs.length).map fun (i : Nat) => if i < j then s + (i : Int) else zs.getD i 0
theorem mkTo_len (s : Int) (zs : List Int) (j : Nat) : (mkTo s zs j).length = zs.length := by unfold mkTo; simp
theorem mkTo_get (s : Int) (zs : List Int) (j : Nat) {i : Nat} (h : i < zs.length) : (mkTo s zs j).getD i 0 = if i < j then s + (i : Int) else zs.getD i 0 := by
 unfold mkTo; rw [List.getD_eq_getElem?_getD, List.getElem?_map, List.getElem?_range h]; rfl
theorem mk_ext {a b : List Int} (hl : a.length = b.length) (h : ∀ i, i < a.length → a.getD i 0 = b.getD i 0) : a = b := by
 apply List.ext_getElem hl
 intro i h1 h2; have := h i h1; rw [List.getD_eq_getElem?_getD, List.getElem?_eq_getElem h1, List.getD_eq_getElem?_getD, List.getElem?_eq_getElem h2] at this; exact this
theorem mkTo_zero (s : Int) (zs : List Int) : mkTo s zs 0 = zs := mk_ext (mkTo_len s zs 0) (fun i hi => by rw [mkTo_len] at hi; rw [mkTo_get s zs 0 hi, if_neg (Nat.not_lt_zero _)])
theorem mkTo_set (s : Int) {zs : List Int} {j : Nat} (h : j < zs.length) : (mkTo s zs j).set j (s + (j : Int)) = mkTo s zs (j + 1) := by
 refine mk_ext (by rw [List.length_set, mkTo_len, mkTo_len]) (fun i hi => ?_); rw [List.length_set, mkTo_len] at hi; rw [getD_setF (by rw [mkTo_len]; exact h), mkTo_get s zs j hi, mkTo_get s zs (j + 1) hi]
 by_cases e : i = j
 ·subst e; rw [if_pos rfl, if_pos (by omega)]
 ·rw [if_neg e]
  by_cases c : i < j
  ·rw [if_pos c, if_pos (by omega)]
  ·rw [if_neg c, if_neg (by omega)]
theorem mkTo_end (s : Int) (zs : List Int) : mkTo s zs zs.length = mkS s zs.length := by
 refine mk_ext (by rw [mkTo_len, mkS_len]) (fun i hi => ?_); rw [mkTo_len] at hi; rw [mkTo_get s zs _ hi, if_pos hi, mkS_get s _ hi]
def RowF (w : World) (base : Nat) (t : TypeId) (v : Value) (n : Nat) (zs : List Int) : Prop := (v = .slice none 0 0 ∧ n = 0) ∨ ∃ g cap, v = .slice (some ⟨g, 0, none⟩) n cap ∧ base ≤ g ∧ Flat w g t zs ∧ n ≤ cap
theorem RowF.next {w w' : World} {base n : Nat} {t : TypeId} {v : Value} {zs : List Int} (h : RowF w base t v n zs) (hb : Below w.heap.size w w') : RowF w' base t v n zs := by
 rcases h with h | ⟨g, cap, hv, hg, F, hc⟩
 ·exact .inl h
 ·exact .inr ⟨g, cap, hv, hg, F.next hb, hc⟩
theorem RowF.base {w : World} {a b n : Nat} {t : TypeId} {v : Value} {zs : List Int} (h : RowF w b t v n zs) (hab : a ≤ b) : RowF w a t v n zs := by
 rcases h with h | ⟨g, cap, hv, hg, r⟩
 ·exact .inl h
 ·exact .inr ⟨g, cap, hv, Nat.le_trans hab hg, r⟩
theorem Flat.type_ne {w : World} {g g' : Nat} {t t' : TypeId} {zs zs' : List Int} (h : Flat w g t zs) (h' : Flat w g' t' zs') (hne : t ≠ t') : g ≠ g' := by
 rintro rfl; obtain ⟨cs, hb, _⟩ := h; obtain ⟨cs', hb', _⟩ := h'; rw [hb] at hb'; injection hb' with e; injection e with _ e2; exact hne e2
theorem RowF.apart {w w' : World} {base n base' n' : Nat} {t t' : TypeId} {v v' : Value} {zs zs' : List Int} (h : RowF w base t v n zs) (h' : RowF w base' t' v' n' zs') (hne : t ≠ t') (hG : w.grownBy w' v'.ownBlock) : RowF w' base t v n zs := by
 rcases h with h | ⟨g, cap, hv, hg, F, hc⟩
 ·exact .inl h
 ·refine .inr ⟨g, cap, hv, hg, F.of_block (hG.block g F.lt ?_), hc⟩
  rcases h' with ⟨e, _⟩ | ⟨g', cap', e, _, F', _⟩
  ·rw [e]; intro c; cases c
  ·rw [e]; intro c
   injection c with c; exact F.type_ne F' hne c
theorem RowF.lt {w : World} {base n : Nat} {t : TypeId} {v : Value} {zs : List Int} (h : RowF w base t v n zs) : ∀ q, v.ownBlock = some q → base ≤ q ∧ q < w.heap.size := by
 rcases h with ⟨e, _⟩ | ⟨g, cap, e, hg, F, _⟩
 ·rw [e]; intro q c; cases c
 ·rw [e]; intro q c
  injection c with c; have c : g = q := c; subst c; exact ⟨hg, F.lt⟩
theorem rowN {w w' : World} {base n size : Nat} {t : TypeId} {v : Value} {xs : List Value} (h : w.ownsRow base t size v n xs) (hb : Below w.heap.size w w') : w'.ownsRow base t size v n xs := by
 refine ⟨h.1, ?_⟩
 rcases h.2 with h0 | ⟨g, cap, cur, hv, hg, hb0, r⟩
 ·exact .inl h0
 ·exact .inr ⟨g, cap, cur, hv, hg, (hb.block g (Blk.lt hb0)).trans hb0, r⟩
theorem rowH {w w' : World} {base n size : Nat} {t : TypeId} {v : Value} {xs : List Value} (h : w.ownsRow base t size v n xs) (hk : ∀ (g : Nat) (cs : Array Value), w.heap[g]? = some (Obj.cells cs t (0, 0)) → w'.heap[g]? = w.heap[g]?) : w'.ownsRow base t size v n xs := by
 refine ⟨h.1, ?_⟩
 rcases h.2 with h0 | ⟨g, cap, cur, hv, hg, hb0, r⟩
 ·exact .inl h0
 ·exact .inr ⟨g, cap, cur, hv, hg, (hk g cur hb0).trans hb0, r⟩
theorem blk_type {w : World} {b g : Nat} {t t' : TypeId} {cs cs' : Array Value} (K : Blk w b t cs) (h : w.heap[g]? = some (Obj.cells cs' t' (0, 0))) (hne : t ≠ t') : g ≠ b := by
 rintro rfl; unfold Blk at K; rw [K] at h; injection h with e; injection e with _ e2; exact hne e2
theorem rowS {w : World} {base n size b : Nat} {t t' : TypeId} {v : Value} {xs : List Value} {cs : Array Value} (h : w.ownsRow base t size v n xs) (K : Blk w b t' cs) (hne : t' ≠ t) (j : Nat) (x : Value) : (w.setCell ⟨b, j, none⟩ x).ownsRow base t size v n xs :=
 rowH h (fun g cs' hg => Below.heap_setCell w ⟨b, j, none⟩ x g (blk_type K hg hne))
theorem rowG {w w' : World} {base n size : Nat} {t : TypeId} {v : Value} {xs : List Value} {O : Obj} (h : w.ownsRow base t size v n xs) (hG : (w.alloc O).grownBy w' (some w.heap.size)) : w'.ownsRow base t size v n xs :=
 rowH h (fun g cs hg => by
  have hlt : g < w.heap.size := Blk.lt hg
  exact (hG.block g (by simp; omega) (fun e => by injection e with e; omega)).trans (Below.heap_alloc w O g hlt))
theorem blkN {w w' : World} {g : Nat} {t : TypeId} {cs : Array Value} {O : Obj} (h : Blk w g t cs) (hG : (w.alloc O).grownBy w' (some w.heap.size)) : Blk w' g t cs :=
 (h.alloc O).grown hG (fun e => by injection e with e; exact absurd h.lt (by omega))
theorem belN {w0 w w' : World} {O : Obj} (h : Below w0.heap.size w0 w) (hG : (w.alloc O).grownBy w' (some w.heap.size)) : Below w0.heap.size w0 w' :=
 (h.alloc h.size O).grown hG (by have := h.size; simp; omega) (fun q e => by injection e with e; have := h.size; omega)
theorem own_form {w : World} {base n size : Nat} {t : TypeId} {v : Value} {xs : List Value} (h : w.ownsRow base t size v n xs) : ∃ b k, v = .slice b n k ∧ n ≤ k := by
 rcases h.2 with ⟨e, h0⟩ | ⟨g, cap, cur, e, _, _, hc, _⟩
 ·exact ⟨none, 0, by rw [e, h0], by omega⟩
 ·exact ⟨_, _, e, hc⟩
theorem own_rowF {w : World} {base n size : Nat} {t : TypeId} {v : Value} {zs : List Int} (h : w.ownsRow base t size v n (zs.map (Value.int .i64))) : RowF w base t v n zs := Flat.own h
def sets6 (w : World) (b : Nat) (v0 v1 v2 v3 v4 v5 : Value) : World := ((((((w.setCell ⟨b, 0, none⟩ v0).setCell ⟨b, 1, none⟩ v1).setCell ⟨b, 2, none⟩ v2).setCell ⟨b, 3, none⟩ v3).setCell ⟨b, 4, none⟩ v4).setCell ⟨b, 5, none⟩ v5)
theorem sets6_below {w W : World} {b : Nat} {v0 v1 v2 v3 v4 v5 : Value} (h : Below w.heap.size w W) (hb : w.heap.size ≤ b) : Below w.heap.size w (sets6 W b v0 v1 v2 v3 v4 v5) := ((((((h.setCell (p := ⟨b, 0, none⟩) hb v0).setCell (p := ⟨b, 1, none⟩) hb v1).setCell (p := ⟨b, 2, none⟩) hb v2).setCell (p := ⟨b, 3, none⟩) hb v3).setCell (p := ⟨b, 4, none⟩) hb v4).setCell (p := ⟨b, 5, none⟩) hb v5)
theorem sets6_blk {w : World} {b : Nat} {t : TypeId} {u0 u1 u2 u3 u4 u5 v0 v1 v2 v3 v4 v5 : Value} (h : Blk w b t #[u0, u1, u2, u3, u4, u5]) : Blk (sets6 w b v0 v1 v2 v3 v4 v5) b t #[v0, v1, v2, v3, v4, v5] := by
 have k := ((((((h.set_ 0 v0).set_ 1 v1).set_ 2 v2).set_ 3 v3).set_ 4 v4).set_ 5 v5)
 simp only [List.setIfInBounds_toArray, List.set_cons_zero, List.set_cons_succ] at k; exact k
theorem cells6 {w : World} {g : Nat} {t : TypeId} {v0 v1 v2 v3 v4 v5 : Value} (h : Blk w g t #[v0, v1, v2, v3, v4, v5]) : w.cell? ⟨g, 0, none⟩ = some v0 ∧ w.cell? ⟨g, 1, none⟩ = some v1 ∧ w.cell? ⟨g, 2, none⟩ = some v2 ∧ w.cell? ⟨g, 3, none⟩ = some v3 ∧ w.cell? ⟨g, 4, none⟩ = some v4 ∧ w.cell? ⟨g, 5, none⟩ = some v5 := ⟨h.cell 0, h.cell 1, h.cell 2, h.cell 3, h.cell 4, h.cell 5⟩
def sets9 (w : World) (b : Nat) (v0 v1 v2 v3 v4 v5 v6 v7 v8 : Value) : World := (((((((((w.setCell ⟨b, 0, none⟩ v0).setCell ⟨b, 1, none⟩ v1).setCell ⟨b, 2, none⟩ v2).setCell ⟨b, 3, none⟩ v3).setCell ⟨b, 4, none⟩ v4).setCell ⟨b, 5, none⟩ v5).setCell ⟨b, 6, none⟩ v6).setCell ⟨b, 7, none⟩ v7).setCell ⟨b, 8, none⟩ v8)
theorem sets9_below {w W : World} {b : Nat} {v0 v1 v2 v3 v4 v5 v6 v7 v8 : Value} (h : Below w.heap.size w W) (hb : w.heap.size ≤ b) : Below w.heap.size w (sets9 W b v0 v1 v2 v3 v4 v5 v6 v7 v8) := (((((((((h.setCell (p := ⟨b, 0, none⟩) hb v0).setCell (p := ⟨b, 1, none⟩) hb v1).setCell (p := ⟨b, 2, none⟩) hb v2).setCell (p := ⟨b, 3, none⟩) hb v3).setCell (p := ⟨b, 4, none⟩) hb v4).setCell (p := ⟨b, 5, none⟩) hb v5).setCell (p := ⟨b, 6, none⟩) hb v6).setCell (p := ⟨b, 7, none⟩) hb v7).setCell (p := ⟨b, 8, none⟩) hb v8)
theorem sets9_blk {w : World} {b : Nat} {t : TypeId} {u0 u1 u2 u3 u4 u5 u6 u7 u8 v0 v1 v2 v3 v4 v5 v6 v7 v8 : Value} (h : Blk w b t #[u0, u1, u2, u3, u4, u5, u6, u7, u8]) : Blk (sets9 w b v0 v1 v2 v3 v4 v5 v6 v7 v8) b t #[v0, v1, v2, v3, v4, v5, v6, v7, v8] := by
 have k := (((((((((h.set_ 0 v0).set_ 1 v1).set_ 2 v2).set_ 3 v3).set_ 4 v4).set_ 5 v5).set_ 6 v6).set_ 7 v7).set_ 8 v8)
 simp only [List.setIfInBounds_toArray, List.set_cons_zero, List.set_cons_succ] at k; exact k
theorem cells9 {w : World} {g : Nat} {t : TypeId} {v0 v1 v2 v3 v4 v5 v6 v7 v8 : Value} (h : Blk w g t #[v0, v1, v2, v3, v4, v5, v6, v7, v8]) : w.cell? ⟨g, 0, none⟩ = some v0 ∧ w.cell? ⟨g, 1, none⟩ = some v1 ∧ w.cell? ⟨g, 2, none⟩ = some v2 ∧ w.cell? ⟨g, 3, none⟩ = some v3 ∧ w.cell? ⟨g, 4, none⟩ = some v4 ∧ w.cell? ⟨g, 5, none⟩ = some v5 ∧ w.cell? ⟨g, 6, none⟩ = some v6 ∧ w.cell? ⟨g, 7, none⟩ = some v7 ∧ w.cell? ⟨g, 8, none⟩ = some v8 := ⟨h.cell 0, h.cell 1, h.cell 2, h.cell 3, h.cell 4, h.cell 5, h.cell 6, h.cell 7, h.cell 8⟩
theorem fS {w y : World} {g b j : Nat} {t : TypeId} {cs : Array Value} {v : Value} (h : Blk w g t cs) (hy : y = w.setCell ⟨b, j, none⟩ v) (hn : g ≠ b) : Blk y g t cs := by subst hy; exact h.far (p := ⟨b, j, none⟩) hn v
theorem fS2 {w y : World} {g b j j2 : Nat} {t : TypeId} {cs : Array Value} {v v2 : Value} (h : Blk w g t cs) (hy : y = (w.setCell ⟨b, j, none⟩ v).setCell ⟨b, j2, none⟩ v2) (hn : g ≠ b) : Blk y g t cs := fS (fS h rfl hn) hy hn
theorem rS {w y : World} {base n size b j : Nat} {t t' : TypeId} {v x : Value} {xs : List Value} {cs : Array Value} (h : w.ownsRow base t size v n xs) (K : Blk w b t' cs) (hy : y = w.setCell ⟨b, j, none⟩ x) (hne : t' ≠ t) : y.ownsRow base t size v n xs := by subst hy; exact rowS h K hne j x
theorem rS2 {w y : World} {base n size b j j2 : Nat} {t t' : TypeId} {v x x2 : Value} {xs : List Value} {cs : Array Value} (h : w.ownsRow base t size v n xs) (K : Blk w b t' cs) (hy : y = (w.setCell ⟨b, j, none⟩ x).setCell ⟨b, j2, none⟩ x2) (hne : t' ≠ t) : y.ownsRow base t size v n xs := rS (rS h K rfl hne) (K.set_ j x) hy hne
theorem bS {w0 w y : World} {b j : Nat} {v : Value} (h : Below w0.heap.size w0 w) (hy : y = w.setCell ⟨b, j, none⟩ v) (hb : w0.heap.size ≤ b) : Below w0.heap.size w0 y := by subst hy; exact h.setCell (p := ⟨b, j, none⟩) hb v
theorem bS2 {w0 w y : World} {b j j2 : Nat} {v v2 : Value} (h : Below w0.heap.size w0 w) (hy : y = (w.setCell ⟨b, j, none⟩ v).setCell ⟨b, j2, none⟩ v2) (hb : w0.heap.size ≤ b) : Below w0.heap.size w0 y := bS (bS h rfl hb) hy hb
theorem S10_0 {w y : World} {b : Nat} {t : TypeId} {u0 u1 u2 u3 u4 u5 u6 u7 u8 u9 v : Value} (h : Blk w b t #[u0, u1, u2, u3, u4, u5, u6, u7, u8, u9]) (hy : y = w.setCell ⟨b, 0, none⟩ v) : Blk y b t #[v, u1, u2, u3, u4, u5, u6, u7, u8, u9] := by subst hy; exact h.set_ 0 v
theorem S10_1 {w y : World} {b : Nat} {t : TypeId} {u0 u1 u2 u3 u4 u5 u6 u7 u8 u9 v : Value} (h : Blk w b t #[u0, u1, u2, u3, u4, u5, u6, u7, u8, u9]) (hy : y = w.setCell ⟨b, 1, none⟩ v) : Blk y b t #[u0, v, u2, u3, u4, u5, u6, u7, u8, u9] := by subst hy; exact h.set_ 1 v
theorem S10_2 {w y : World} {b : Nat} {t : TypeId} {u0 u1 u2 u3 u4 u5 u6 u7 u8 u9 v : Value} (h : Blk w b t #[u0, u1, u2, u3, u4, u5, u6, u7, u8, u9]) (hy : y = w.setCell ⟨b, 2, none⟩ v) : Blk y b t #[u0, u1, v, u3, u4, u5, u6, u7, u8, u9] := by subst hy; exact h.set_ 2 v
theorem S10_3 {w y : World} {b : Nat} {t : TypeId} {u0 u1 u2 u3 u4 u5 u6 u7 u8 u9 v : Value} (h : Blk w b t #[u0, u1, u2, u3, u4, u5, u6, u7, u8, u9]) (hy : y = w.setCell ⟨b, 3, none⟩ v) : Blk y b t #[u0, u1, u2, v, u4, u5, u6, u7, u8, u9] := by subst hy; exact h.set_ 3 v
theorem S10_4 {w y : World} {b : Nat} {t : TypeId} {u0 u1 u2 u3 u4 u5 u6 u7 u8 u9 v : Value} (h : Blk w b t #[u0, u1, u2, u3, u4, u5, u6, u7, u8, u9]) (hy : y = w.setCell ⟨b, 4, none⟩ v) : Blk y b t #[u0, u1, u2, u3, v, u5, u6, u7, u8, u9] := by subst hy; exact h.set_ 4 v
theorem S10_5 {w y : World} {b : Nat} {t : TypeId} {u0 u1 u2 u3 u4 u5 u6 u7 u8 u9 v : Value} (h : Blk w b t #[u0, u1, u2, u3, u4, u5, u6, u7, u8, u9]) (hy : y = w.setCell ⟨b, 5, none⟩ v) : Blk y b t #[u0, u1, u2, u3, u4, v, u6, u7, u8, u9] := by subst hy; exact h.set_ 5 v
theorem S10_7 {w y : World} {b : Nat} {t : TypeId} {u0 u1 u2 u3 u4 u5 u6 u7 u8 u9 v : Value} (h : Blk w b t #[u0, u1, u2, u3, u4, u5, u6, u7, u8, u9]) (hy : y = w.setCell ⟨b, 7, none⟩ v) : Blk y b t #[u0, u1, u2, u3, u4, u5, u6, v, u8, u9] := by subst hy; exact h.set_ 7 v
theorem S10_8 {w y : World} {b : Nat} {t : TypeId} {u0 u1 u2 u3 u4 u5 u6 u7 u8 u9 v : Value} (h : Blk w b t #[u0, u1, u2, u3, u4, u5, u6, u7, u8, u9]) (hy : y = w.setCell ⟨b, 8, none⟩ v) : Blk y b t #[u0, u1, u2, u3, u4, u5, u6, u7, v, u9] := by subst hy; exact h.set_ 8 v
theorem S10_9 {w y : World} {b : Nat} {t : TypeId} {u0 u1 u2 u3 u4 u5 u6 u7 u8 u9 v : Value} (h : Blk w b t #[u0, u1, u2, u3, u4, u5, u6, u7, u8, u9]) (hy : y = w.setCell ⟨b, 9, none⟩ v) : Blk y b t #[u0, u1, u2, u3, u4, u5, u6, u7, u8, v] := by subst hy; exact h.set_ 9 v
theorem S10_3x2 {w y : World} {b : Nat} {t : TypeId} {u0 u1 u2 u3 u4 u5 u6 u7 u8 u9 v v2 : Value} (h : Blk w b t #[u0, u1, u2, u3, u4, u5, u6, u7, u8, u9]) (hy : y = (w.setCell ⟨b, 3, none⟩ v).setCell ⟨b, 4, none⟩ v2) : Blk y b t #[u0, u1, u2, v, v2, u5, u6, u7, u8, u9] := S10_4 (S10_3 h rfl) hy
theorem S9_0 {w y : World} {b : Nat} {t : TypeId} {u0 u1 u2 u3 u4 u5 u6 u7 u8 v : Value} (h : Blk w b t #[u0, u1, u2, u3, u4, u5, u6, u7, u8]) (hy : y = w.setCell ⟨b, 0, none⟩ v) : Blk y b t #[v, u1, u2, u3, u4, u5, u6, u7, u8] := by subst hy; exact h.set_ 0 v
theorem S9_1 {w y : World} {b : Nat} {t : TypeId} {u0 u1 u2 u3 u4 u5 u6 u7 u8 v : Value} (h : Blk w b t #[u0, u1, u2, u3, u4, u5, u6, u7, u8]) (hy : y = w.setCell ⟨b, 1, none⟩ v) : Blk y b t #[u0, v, u2, u3, u4, u5, u6, u7, u8] := by subst hy; exact h.set_ 1 v
theorem S9_2 {w y : World} {b : Nat} {t : TypeId} {u0 u1 u2 u3 u4 u5 u6 u7 u8 v : Value} (h : Blk w b t #[u0, u1, u2, u3, u4, u5, u6, u7, u8]) (hy : y = w.setCell ⟨b, 2, none⟩ v) : Blk y b t #[u0, u1, v, u3, u4, u5, u6, u7, u8] := by subst hy; exact h.set_ 2 v
theorem S9_3 {w y : World} {b : Nat} {t : TypeId} {u0 u1 u2 u3 u4 u5 u6 u7 u8 v : Value} (h : Blk w b t #[u0, u1, u2, u3, u4, u5, u6, u7, u8]) (hy : y = w.setCell ⟨b, 3, none⟩ v) : Blk y b t #[u0, u1, u2, v, u4, u5, u6, u7, u8] := by subst hy; exact h.set_ 3 v
theorem S9_4 {w y : World} {b : Nat} {t : TypeId} {u0 u1 u2 u3 u4 u5 u6 u7 u8 v : Value} (h : Blk w b t #[u0, u1, u2, u3, u4, u5, u6, u7, u8]) (hy : y = w.setCell ⟨b, 4, none⟩ v) : Blk y b t #[u0, u1, u2, u3, v, u5, u6, u7, u8] := by subst hy; exact h.set_ 4 v
theorem S9_5 {w y : World} {b : Nat} {t : TypeId} {u0 u1 u2 u3 u4 u5 u6 u7 u8 v : Value} (h : Blk w b t #[u0, u1, u2, u3, u4, u5, u6, u7, u8]) (hy : y = w.setCell ⟨b, 5, none⟩ v) : Blk y b t #[u0, u1, u2, u3, u4, v, u6, u7, u8] := by subst hy; exact h.set_ 5 v
theorem S9_6 {w y : World} {b : Nat} {t : TypeId} {u0 u1 u2 u3 u4 u5 u6 u7 u8 v : Value} (h : Blk w b t #[u0, u1, u2, u3, u4, u5, u6, u7, u8]) (hy : y = w.setCell ⟨b, 6, none⟩ v) : Blk y b t #[u0, u1, u2, u3, u4, u5, v, u7, u8] := by subst hy; exact h.set_ 6 v
theorem S9_7 {w y : World} {b : Nat} {t : TypeId} {u0 u1 u2 u3 u4 u5 u6 u7 u8 v : Value} (h : Blk w b t #[u0, u1, u2, u3, u4, u5, u6, u7, u8]) (hy : y = w.setCell ⟨b, 7, none⟩ v) : Blk y b t #[u0, u1, u2, u3, u4, u5, u6, v, u8] := by subst hy; exact h.set_ 7 v
theorem S9_8 {w y : World} {b : Nat} {t : TypeId} {u0 u1 u2 u3 u4 u5 u6 u7 u8 v : Value} (h : Blk w b t #[u0, u1, u2, u3, u4, u5, u6, u7, u8]) (hy : y = w.setCell ⟨b, 8, none⟩ v) : Blk y b t #[u0, u1, u2, u3, u4, u5, u6, u7, v] := by subst hy; exact h.set_ 8 v
theorem X9b {w y : World} {b : Nat} {t : TypeId} {u0 u1 u2 u3 u4 u5 u6 u7 u8 v0 v1 v2 v3 v4 v5 v6 v7 v8 : Value} (h : Blk w b t #[u0, u1, u2, u3, u4, u5, u6, u7, u8]) (hy : y = sets9 w b v0 v1 v2 v3 v4 v5 v6 v7 v8) : Blk y b t #[v0, v1, v2, v3, v4, v5, v6, v7, v8] := by subst hy; exact sets9_blk h
theorem X9B {w0 w y : World} {b : Nat} {v0 v1 v2 v3 v4 v5 v6 v7 v8 : Value} (h : Below w0.heap.size w0 w) (hy : y = sets9 w b v0 v1 v2 v3 v4 v5 v6 v7 v8) (hb : w0.heap.size ≤ b) : Below w0.heap.size w0 y := by subst hy; exact sets9_below h hb
theorem S6_0 {w y : World} {b : Nat} {t : TypeId} {u0 u1 u2 u3 u4 u5 v : Value} (h : Blk w b t #[u0, u1, u2, u3, u4, u5]) (hy : y = w.setCell ⟨b, 0, none⟩ v) : Blk y b t #[v, u1, u2, u3, u4, u5] := by subst hy; exact h.set_ 0 v
theorem S6_1 {w y : World} {b : Nat} {t : TypeId} {u0 u1 u2 u3 u4 u5 v : Value} (h : Blk w b t #[u0, u1, u2, u3, u4, u5]) (hy : y = w.setCell ⟨b, 1, none⟩ v) : Blk y b t #[u0, v, u2, u3, u4, u5] := by subst hy; exact h.set_ 1 v
theorem S6_2 {w y : World} {b : Nat} {t : TypeId} {u0 u1 u2 u3 u4 u5 v : Value} (h : Blk w b t #[u0, u1, u2, u3, u4, u5]) (hy : y = w.setCell ⟨b, 2, none⟩ v) : Blk y b t #[u0, u1, v, u3, u4, u5] := by subst hy; exact h.set_ 2 v
theorem S6_3 {w y : World} {b : Nat} {t : TypeId} {u0 u1 u2 u3 u4 u5 v : Value} (h : Blk w b t #[u0, u1, u2, u3, u4, u5]) (hy : y = w.setCell ⟨b, 3, none⟩ v) : Blk y b t #[u0, u1, u2, v, u4, u5] := by subst hy; exact h.set_ 3 v
theorem S6_4 {w y : World} {b : Nat} {t : TypeId} {u0 u1 u2 u3 u4 u5 v : Value} (h : Blk w b t #[u0, u1, u2, u3, u4, u5]) (hy : y = w.setCell ⟨b, 4, none⟩ v) : Blk y b t #[u0, u1, u2, u3, v, u5] := by subst hy; exact h.set_ 4 v
theorem S6_5 {w y : World} {b : Nat} {t : TypeId} {u0 u1 u2 u3 u4 u5 v : Value} (h : Blk w b t #[u0, u1, u2, u3, u4, u5]) (hy : y = w.setCell ⟨b, 5, none⟩ v) : Blk y b t #[u0, u1, u2, u3, u4, v] := by subst hy; exact h.set_ 5 v
theorem S6_3x2 {w y : World} {b : Nat} {t : TypeId} {u0 u1 u2 u3 u4 u5 v v2 : Value} (h : Blk w b t #[u0, u1, u2, u3, u4, u5]) (hy : y = (w.setCell ⟨b, 3, none⟩ v).setCell ⟨b, 4, none⟩ v2) : Blk y b t #[u0, u1, u2, v, v2, u5] := S6_4 (S6_3 h rfl) hy
theorem X6b {w y : World} {b : Nat} {t : TypeId} {u0 u1 u2 u3 u4 u5 v0 v1 v2 v3 v4 v5 : Value} (h : Blk w b t #[u0, u1, u2, u3, u4, u5]) (hy : y = sets6 w b v0 v1 v2 v3 v4 v5) : Blk y b t #[v0, v1, v2, v3, v4, v5] := by subst hy; exact sets6_blk h
theorem X6B {w0 w y : World} {b : Nat} {v0 v1 v2 v3 v4 v5 : Value} (h : Below w0.heap.size w0 w) (hy : y = sets6 w b v0 v1 v2 v3 v4 v5) (hb : w0.heap.size ≤ b) : Below w0.heap.size w0 y := by subst hy; exact sets6_below h hb
theorem ltoFrac (n d : Int) (w : World) :
  Calls Tryz.prog 64 #[.agg #[.int .i64 n, .int .i64 d]] w fun e w' => e = .returned (.agg #[.int .i64 n, .int .i64 d]) ∧ Below w.heap.size w w' := by
 go_enter Tryz.func64, Tryz.ntmps64
 go_wp2
 refine bodyPost_ret (v := .agg #[.int .i64 n, .int .i64 d]) (by simp [results, Tryz.results64, go_sem]) rfl ⟨rfl, by go_grown⟩
theorem leqFrac (n d : Int) (w : World) :
  Calls Tryz.prog 84 #[.agg #[.int .i64 n, .int .i64 d], .agg #[.int .i64 n, .int .i64 d]] w fun e w' => e = .returned (.bool true) ∧ Below w.heap.size w w' := by
 go_enter Tryz.func84, Tryz.ntmps84
 go_wp2
 go_ret; exact ⟨rfl, by go_grown⟩
theorem g_set {a w : World} {g : Nat} (h : a.grownBy w (some g)) {p : Addr} (hp : p.block = g ∨ a.heap.size ≤ p.block) (u : Value) : a.grownBy (w.setCell p u) (some g) :=
 ⟨h.os, h.tape, h.output, by simpa [World.setCell] using h.size, fun i hi hne => (Below.heap_setCell w p u i (by
  rintro rfl
  rcases hp with hp | hp
  ·exact hne (by rw [hp])
  ·omega)).trans (h.block i hi hne)⟩
theorem g_below {a w : World} (h : Below a.heap.size a w) (row : Option Nat) : a.grownBy w row := ⟨h.os, h.tape, h.output, h.size, fun i hi _ => h.block i hi⟩
theorem g_drewN {a w : World} {row : Option Nat} (h : a.grownBy w row) (n : Nat) : a.grownBy (w.drewN n) row := ⟨h.os, h.tape, h.output, h.size, h.block⟩
theorem g_trans {a b c : World} {g : Nat} (h : a.grownBy b (some g)) (k : b.grownBy c (some g)) : a.grownBy c (some g) :=
 ⟨k.os.trans h.os, k.tape.trans h.tape, k.output.trans h.output, Nat.le_trans h.size k.size, fun i hi hne => (k.block i (Nat.lt_of_lt_of_le hi h.size) hne).trans (h.block i hi hne)⟩
theorem so {w : World} {a c : Addr} {v u : Value} (h : a ≠ c) (hu : w.cell? c = some u) : (w.setCell a v).cell? c = some u := by
 rw [World.cell?_setCell_other]
 ·exact hu
 ·exact h
theorem rowF_hs {w : World} {base c : Nat} {a : Option Addr} {xs : List Hd} (h : RowF w base 103 (.slice a xs.length c) xs.length (flatH xs)) : IsHs w a xs ∧ xs.length ≤ c := by
 rcases h with ⟨e, h0⟩ | ⟨g, cap, e, hg, F, hc⟩
 ·injection e with e1 e2 e3
  refine ⟨.inl (List.eq_nil_of_length_eq_zero h0), by omega⟩
 ·injection e with e1 e2 e3
  subst e1 e3; exact ⟨F.hs, hc⟩
theorem rowF_tn {w : World} {base c : Nat} {a : Option Addr} {xs : List Tn} (h : RowF w base 108 (.slice a xs.length c) xs.length (flatTn xs)) : IsTn w a xs ∧ xs.length ≤ c := by
 rcases h with ⟨e, h0⟩ | ⟨g, cap, e, hg, F, hc⟩
 ·injection e with e1 e2 e3
  refine ⟨.inl (List.eq_nil_of_length_eq_zero h0), by omega⟩
 ·injection e with e1 e2 e3
  subst e1 e3; exact ⟨F.tn, hc⟩
theorem rowF_nd {w : World} {base c : Nat} {a : Option Addr} {xs : List Nd} (h : RowF w base 100 (.slice a xs.length c) xs.length (flatNd xs)) : IsNd w a xs ∧ xs.length ≤ c := by
 rcases h with ⟨e, h0⟩ | ⟨g, cap, e, hg, F, hc⟩
 ·injection e with e1 e2 e3
  refine ⟨.inl (List.eq_nil_of_length_eq_zero h0), by omega⟩
 ·injection e with e1 e2 e3
  subst e1 e3; exact ⟨F.nd, hc⟩
theorem rowF_ac {w : World} {base c : Nat} {a : Option Addr} {xs : List Ac} (h : RowF w base 114 (.slice a xs.length c) xs.length (flatAc xs)) : IsAc w a xs ∧ xs.length ≤ c := by
 rcases h with ⟨e, h0⟩ | ⟨g, cap, e, hg, F, hc⟩
 ·injection e with e1 e2 e3
  refine ⟨.inl (List.eq_nil_of_length_eq_zero h0), by omega⟩
 ·injection e with e1 e2 e3
  subst e1 e3; exact ⟨F.ac, hc⟩
structure TwO (w : World) (base : Nat) (p : TA) (t : Tw) : Prop where
 o1 : RowF w base 103 (.slice p.a1 t.hs.length p.c1) t.hs.length (flatH t.hs)
 n1 : t.hs.length ≤ 1048576
 o2 : RowF w base 108 (.slice p.a2 t.ts.length p.c2) t.ts.length (flatTn t.ts)
 n2 : t.ts.length ≤ 1048576
 o3 : RowF w base 100 (.slice p.a3 t.ns.length p.c3) t.ns.length (flatNd t.ns)
 n3 : t.ns.length ≤ 1048576
 o4 : RowF w base 114 (.slice p.a4 t.ac.length p.c4) t.ac.length (flatAc t.ac)
 n4 : t.ac.length ≤ 1048576
theorem TwO.is {w : World} {base : Nat} {p : TA} {t : Tw} (h : TwO w base p t) : IsTw w p t :=
 ⟨(rowF_hs h.o1).1, (rowF_tn h.o2).1, (rowF_nd h.o3).1, (rowF_ac h.o4).1, h.n1, h.n2, h.n3, h.n4, (rowF_hs h.o1).2, (rowF_tn h.o2).2, (rowF_nd h.o3).2, (rowF_ac h.o4).2⟩
theorem TwO.next {w w' : World} {base : Nat} {p : TA} {t : Tw} (h : TwO w base p t) (hb : Below w.heap.size w w') : TwO w' base p t :=
 ⟨h.o1.next hb, h.n1, h.o2.next hb, h.n2, h.o3.next hb, h.n3, h.o4.next hb, h.n4⟩
theorem TwO.base {w : World} {a b : Nat} {p : TA} {t : Tw} (h : TwO w b p t) (hab : a ≤ b) : TwO w a p t :=
 ⟨h.o1.base hab, h.n1, h.o2.base hab, h.n2, h.o3.base hab, h.n3, h.o4.base hab, h.n4⟩
theorem TwO.zero (w : World) (base : Nat) : TwO w base TA.zero Tw.zero := ⟨.inl ⟨rfl, rfl⟩, by decide, .inl ⟨rfl, rfl⟩, by decide, .inl ⟨rfl, rfl⟩, by decide, .inl ⟨rfl, rfl⟩, by decide⟩
def OutTw (w : World) (t : Tw) (e : Ending) (w' : World) : Prop := ∃ p, e = .returned (twV p t) ∧ TwO w' w.heap.size p t ∧ Below w.heap.size w w'
def sets10 (w : World) (b : Nat) (v0 v1 v2 v3 v4 v5 v6 v7 v8 v9 : Value) : World := (((((((((w.setCell ⟨b, 0, none⟩ v0).setCell ⟨b, 1, none⟩ v1).setCell ⟨b, 2, none⟩ v2).setCell ⟨b, 3, none⟩ v3).setCell ⟨b, 4, none⟩ v4).setCell ⟨b, 5, none⟩ v5).setCell ⟨b, 6, none⟩ v6).setCell ⟨b, 7, none⟩ v7).setCell ⟨b, 8, none⟩ v8).setCell ⟨b, 9, none⟩ v9
theorem flat_setC {w : World} {g b j : Nat} {t : TypeId} {zs : List Int} {v : Value} (h : Flat w g t zs) (hne : g ≠ b) : Flat (w.setCell ⟨b, j, none⟩ v) g t zs := h.of_block (Below.heap_setCell w ⟨b, j, none⟩ v g hne)
theorem sets10_flat {w : World} {g b : Nat} {t : TypeId} {zs : List Int} {v0 v1 v2 v3 v4 v5 v6 v7 v8 v9 : Value} (h : Flat w g t zs) (hne : g ≠ b) : Flat (sets10 w b v0 v1 v2 v3 v4 v5 v6 v7 v8 v9) g t zs :=
 flat_setC (flat_setC (flat_setC (flat_setC (flat_setC (flat_setC (flat_setC (flat_setC (flat_setC (flat_setC h hne) hne) hne) hne) hne) hne) hne) hne) hne) hne
theorem sets10_below {w W : World} {b : Nat} {v0 v1 v2 v3 v4 v5 v6 v7 v8 v9 : Value} (h : Below w.heap.size w W) (hb : w.heap.size ≤ b) : Below w.heap.size w (sets10 W b v0 v1 v2 v3 v4 v5 v6 v7 v8 v9) :=
 (((((((((h.setCell (p := ⟨b, 0, none⟩) hb v0).setCell (p := ⟨b, 1, none⟩) hb v1).setCell (p := ⟨b, 2, none⟩) hb v2).setCell (p := ⟨b, 3, none⟩) hb v3).setCell (p := ⟨b, 4, none⟩) hb v4).setCell (p := ⟨b, 5, none⟩) hb v5).setCell (p := ⟨b, 6, none⟩) hb v6).setCell (p := ⟨b, 7, none⟩) hb v7).setCell (p := ⟨b, 8, none⟩) hb v8).setCell (p := ⟨b, 9, none⟩) hb v9
theorem sets10_blk {w : World} {b : Nat} {t : TypeId} {u0 u1 u2 u3 u4 u5 u6 u7 u8 u9 v0 v1 v2 v3 v4 v5 v6 v7 v8 v9 : Value} (h : Blk w b t #[u0, u1, u2, u3, u4, u5, u6, u7, u8, u9]) : Blk (sets10 w b v0 v1 v2 v3 v4 v5 v6 v7 v8 v9) b t #[v0, v1, v2, v3, v4, v5, v6, v7, v8, v9] := by
 have k := (((((((((h.set_ 0 v0).set_ 1 v1).set_ 2 v2).set_ 3 v3).set_ 4 v4).set_ 5 v5).set_ 6 v6).set_ 7 v7).set_ 8 v8).set_ 9 v9; simp only [List.setIfInBounds_toArray, List.set_cons_zero, List.set_cons_succ] at k; exact k
theorem ltoHolding (o n d : Int) (w : World) :
  Calls Tryz.prog 60 #[.agg #[.int .i64 o, .int .i64 n, .int .i64 d]] w fun e w' => e = .returned (.agg #[.int .i64 o, .int .i64 n, .int .i64 d]) ∧ Below w.heap.size w w' := by
 go_enter Tryz.func60, Tryz.ntmps60; go_wp2_with fail; refine (ltoFrac n d _).mono ?_; rintro e w1 ⟨rfl, hb⟩; have hB : Below w.heap.size w w1 := bel_tr (by go_grown) hb; obtain ⟨hc, hf⟩ := bcell hb; have hz := hb.size
 simp at hz
 have c0 := hc (w.heap.size + 1) 0 (by simp); have c1 := hc (w.heap.size + 1) 1 (by simp); have c2 := hc (w.heap.size + 1) 2 (by simp); have c3 := hc (w.heap.size + 2) 0 (by simp); have c4 := hc (w.heap.size + 2) 1 (by simp); have c5 := hc (w.heap.size + 2) 2 (by simp); have f0 := hf (w.heap.size + 1) 0 (by simp); have f1 := hf (w.heap.size + 1) 1 (by simp); have f2 := hf (w.heap.size + 1) 2 (by simp); have f3 := hf (w.heap.size + 2) 0 (by simp); have f4 := hf (w.heap.size + 2) 1 (by simp); have f5 := hf (w.heap.size + 2) 2 (by simp)
 simp [go_sem] at c0 c1 c2 c3 c4 c5 f0 f1 f2 f3 f4 f5
 clear hc hf hb; go_wp2_with fail; refine bodyPost_ret (v := .agg #[.int .i64 o, .int .i64 n, .int .i64 d]) (by simp [results, Tryz.results60, go_sem, c0, c1, c2]) rfl ⟨rfl, ?_⟩
 repeat (first | exact hB | refine Below.setCell ?_ (by simp <;> omega) _)
theorem leqHolding (o n d : Int) (w : World) :
  Calls Tryz.prog 80 #[.agg #[.int .i64 o, .int .i64 n, .int .i64 d], .agg #[.int .i64 o, .int .i64 n, .int .i64 d]] w fun e w' => e = .returned (.bool true) ∧ Below w.heap.size w w' := by
 go_enter Tryz.func80, Tryz.ntmps80; go_wp2_with fail; refine (leqFrac n d _).mono ?_; rintro e w1 ⟨rfl, hb⟩; have hB : Below w.heap.size w w1 := bel_tr (by go_grown) hb; go_wp2_with fail; go_ret; exact ⟨rfl, hB⟩
def CopiedH (w : World) (hs : List Hd) (e : Ending) (w' : World) : Prop := ∃ g : Nat, e = .returned (.slice (some ⟨g, 0, none⟩) hs.length hs.length) ∧ w.heap.size ≤ g ∧ Flat w' g 103 (flatH hs) ∧ Below w.heap.size w w'
theorem made_row (w : World) (n : Nat) (t : TypeId) : (w.alloc (.cells (madeCells #[.int .i64 0, .int .i64 0, .int .i64 0] n) t)).rowIs w.heap.size t n (fun _ => .int .i64 0) := by
 have hs : (madeCells #[Value.int .i64 0, .int .i64 0, .int .i64 0] n).size = n := by unfold madeCells; simp
 refine ⟨_, heap_alloc_new w _, hs, fun i hi => ?_⟩
 have hm : i % 3 = 0 ∨ i % 3 = 1 ∨ i % 3 = 2 := by omega
 unfold madeCells; rw [Array.getElem?_map, Array.getElem?_range, if_pos hi]
 show some ((#[Value.int .i64 0, .int .i64 0, .int .i64 0] : Array Value)[i % 3]!) = _
 rcases hm with h | h | h <;> rw [h] <;> rfl
theorem run_makeH (n : Nat) (hn : n ≤ 1048576) (w : World) : (Instr.makeSlice 39 (.int .i64 (n : Int)) (.int .i64 (n : Int))).run Tryz.prog w = .ok (.slice (some ⟨w.heap.size, 0, none⟩) n n) (w.alloc (.cells (madeCells #[.int .i64 0, .int .i64 0, .int .i64 0] (n * 3)) 103)) := by
 obtain ⟨i0, hi0, hz0, hz1, hz2⟩ := info_parts infoH; have := run_make (P := Tryz.prog) w 39 103 i0 _ Tryz.underlying39 hi0 hz0 .i64 .i64 (n : Int) (n : Int) (by omega) (by omega) (by rw [hz2]; omega) (by omega); simp only [Int.toNat_natCast, hz1] at this; exact this
theorem ltoH (a : Option Addr) (cap : Nat) (hs : List Hd) (w : World) (h : IsHs w a hs) (hn : hs.length ≤ 1048576) :
  Calls Tryz.prog 22 #[.slice a hs.length cap] w (CopiedH w hs) := by
 rcases h with rfl | ⟨g, o, rfl, hc⟩
 ·have hmk : ∀ W : World, (Instr.makeSlice 39 (.int .i64 0) (.int .i64 0)).run Tryz.prog W = .ok (.slice (some ⟨W.heap.size, 0, none⟩) 0 0) (W.alloc (.cells (madeCells #[.int .i64 0, .int .i64 0, .int .i64 0] 0) 103)) := fun W => run_makeH 0 (by omega) W
  go_enter Tryz.func22, Tryz.ntmps22
  go_wp2
  go_rounds 1
  go_ret; exact ⟨_, rfl, Nat.le_refl _, Flat.row (made_row w 0 _) (by simp [flatH]) (fun j hj => by simp [flatH] at hj), by go_grown⟩
 ·have hmk := run_makeH hs.length hn
  have HC := Lib.hid hc; clear hc; go_enter Tryz.func22, Tryz.ntmps22
  go_wp2
  clear hmk
  go_loopw [4] (fun i wr => ∃ k : Nat, k ≤ hs.length ∧ i = .int .i64 k ∧ wr.rowIs w.heap.size 103 (hs.length * 3) (fun j => if j < k * 3 then .int .i64 ((flatH hs).getD j 0) else .int .i64 0) ∧ Below w.heap.size w wr) (fun i _ => hs.length - (intOf i).toNat)
  case atStart => exact ⟨0, Nat.zero_le _, rfl, (made_row w (hs.length * 3) _).congr (fun i hi => by simp), by go_grown⟩
  case round =>
   obtain ⟨k, hk, rfl, hrow, hB⟩ := hrel
   by_cases hlt : k < hs.length
   ·obtain ⟨c0, c1, c2⟩ := cells_at HC.out hB hlt
    obtain ⟨g0, g1, g2⟩ := flat_get hs k hlt
    have hd : ∀ j, k * 3 ≤ j → j < hs.length * 3 → wr.cell? ⟨w.heap.size, j, none⟩ = some (.int .i64 0) := fun j h0 h1 => by rw [hrow.cell h1, if_neg (by omega)]
    have d0 := hd (k * 3) (by omega) (by omega); have d1 := hd (k * 3 + 1) (by omega) (by omega); have d2 := hd (k * 3 + 2) (by omega) (by omega)
    have hcon : ∀ x n d : Int, (flatH hs).getD (k * 3) 0 = x → (flatH hs).getD (k * 3 + 1) 0 = n → (flatH hs).getD (k * 3 + 2) 0 = d → ∀ W : World, W.heap[w.heap.size]? = wr.heap[w.heap.size]? →
      (((W.setCell ⟨w.heap.size, k * 3, none⟩ (.int .i64 x)).setCell ⟨w.heap.size, k * 3 + 1, none⟩ (.int .i64 n)).setCell ⟨w.heap.size, k * 3 + 2, none⟩ (.int .i64 d)).rowIs w.heap.size 103 (hs.length * 3) (fun j => if j < (k + 1) * 3 then .int .i64 ((flatH hs).getD j 0) else .int .i64 0) := fun x n d e0 e1 e2 W hW => by
     have hrow' := World.rowIs.of_block hrow hW; refine (((hrow'.set (k * 3) (.int .i64 x)).set (k * 3 + 1) (.int .i64 n)).set (k * 3 + 2) (.int .i64 d)).congr (fun j hj => ?_)
     show (if j = k * 3 + 2 then Value.int .i64 d else if j = k * 3 + 1 then .int .i64 n else if j = k * 3 then .int .i64 x else if j < k * 3 then .int .i64 ((flatH hs).getD j 0) else .int .i64 0) = _
     by_cases a2 : j = k * 3 + 2
     ·rw [if_pos a2, if_pos (by omega), a2, e2]
     rw [if_neg a2]
     by_cases a1 : j = k * 3 + 1
     ·rw [if_pos a1, if_pos (by omega), a1, e1]
     rw [if_neg a1]
     by_cases a0 : j = k * 3
     ·rw [if_pos a0, if_pos (by omega), a0, e0]
     rw [if_neg a0]
     by_cases al : j < k * 3
     ·rw [if_pos al, if_pos (by omega)]
     ·rw [if_neg al, if_neg (by omega)]
    have hcon2 := hcon _ _ _ g0 g1 g2; have hfr := hrow.frozen; have hlw := World.rowIs.lt hrow; clear hcon hd g0 g1 g2; generalize hs.getD k hd0 = hh at c0 c1 c2 hcon2; obtain ⟨x, n, d⟩ := hh; dsimp only at c0 c1 c2 hcon2; have HR := Lib.hid hcon2; have HB := Lib.hid hB; have HF := Lib.hid hfr; clear hcon2 hrow hB hfr; go_wp2_with fail; refine (ltoHolding x n d _).mono ?_; rintro e w1 ⟨rfl, hb⟩; have hB1 := bel_tr HB.out hb; have hblk := hb.block w.heap.size hlw; have e0 := (hb.cell (p := ⟨w.heap.size, k * 3, none⟩) hlw).trans d0; have e1 := (hb.cell (p := ⟨w.heap.size, k * 3 + 1, none⟩) hlw).trans d1; have e2 := (hb.cell (p := ⟨w.heap.size, k * 3 + 2, none⟩) hlw).trans d2; have f0 := (hb.frozen (p := ⟨w.heap.size, k * 3, none⟩) hlw).trans (HF.out _); have f1 := (hb.frozen (p := ⟨w.heap.size, k * 3 + 1, none⟩) hlw).trans (HF.out _); have f2 := (hb.frozen (p := ⟨w.heap.size, k * 3 + 2, none⟩) hlw).trans (HF.out _); clear hb d0 d1 d2 c0 c1 c2; go_wp2_with fail
    go_roundw
    case rel => exact ⟨k + 1, by omega, by go_num, HR.out w1 hblk, ((hB1.setCell (Nat.le_refl _) _).setCell (Nat.le_refl _) _).setCell (Nat.le_refl _) _⟩
    case measure => simp [intOf]; omega
   ·have HR := Lib.hid hrow
    have HB := Lib.hid hB; clear hrow hB
    go_wp2
    go_ret; have hl := flat_len hs; exact ⟨_, rfl, Nat.le_refl _, Flat.row HR.out (by omega) (fun j hj => by rw [if_pos (by omega)]), HB.out⟩
theorem keep6 {w w' : World} {p q r p' q' r' : Addr} {u v x u' v' x' : Value} (hb : Below w.heap.size w w') (h : w.cell? p = some u ∧ w.cell? q = some v ∧ w.cell? r = some x ∧ w.cell? p' = some u' ∧ w.cell? q' = some v' ∧ w.cell? r' = some x') : w'.cell? p = some u ∧ w'.cell? q = some v ∧ w'.cell? r = some x ∧ w'.cell? p' = some u' ∧ w'.cell? q' = some v' ∧ w'.cell? r' = some x' := by
 have n : ∀ {p : Addr} {v : Value}, w.cell? p = some v → w'.cell? p = some v := fun h => (hb.cell (World.block_lt_of_cell? w _ h)).trans h
 exact ⟨n h.1, n h.2.1, n h.2.2.1, n h.2.2.2.1, n h.2.2.2.2.1, n h.2.2.2.2.2⟩
theorem leqH (a b : Option Addr) (ca cb : Nat) (hs : List Hd) (w : World) (ha : IsHs w a hs) (hb : IsHs w b hs) (hn : hs.length ≤ 1048576) :
  Calls Tryz.prog 31 #[.slice a hs.length ca, .slice b hs.length cb] w fun e w' => e = .returned (.bool true) ∧ Below w.heap.size w w' := by
 rcases ha with rfl | ⟨g, o, rfl, hc⟩
 ·go_enter Tryz.func31, Tryz.ntmps31
  go_wp2
  go_rounds 1
  go_ret; exact ⟨rfl, by go_grown⟩
 ·rcases hb with rfl | ⟨g2, o2, rfl, hc2⟩
  ·go_enter Tryz.func31, Tryz.ntmps31
   go_wp2
   go_rounds 1
   go_ret; exact ⟨rfl, by go_grown⟩
  ·have HC := Lib.hid hc
   have HD := Lib.hid hc2; clear hc hc2; go_enter Tryz.func31, Tryz.ntmps31
   go_wp2
   go_loopw [5] (fun i wr => ∃ k : Nat, k ≤ hs.length ∧ i = .int .i64 k ∧ Below w.heap.size w wr) (fun i _ => hs.length - (intOf i).toNat)
   case atStart => exact ⟨0, Nat.zero_le _, rfl, by go_grown⟩
   case round =>
    obtain ⟨k, hk, rfl, hB⟩ := hrel
    by_cases hlt : k < hs.length
    ·obtain ⟨c0, c1, c2⟩ := cells_at HC.out hB hlt
     obtain ⟨d0, d1, d2⟩ := cells_at HD.out hB hlt; generalize hs.getD k hd0 = hh at c0 c1 c2 d0 d1 d2; obtain ⟨x, n, d⟩ := hh; dsimp only at c0 c1 c2 d0 d1 d2; have HB := Lib.hid hB; clear hB
     have i0 : (0 : Int) ≤ (k : Int) := by omega
     have i1 : (k : Int) < (hs.length : Int) := by omega
     go_wp2_with fail
     go_region_held3 (fun w' => w'.cell? ⟨g, o + k * 3, none⟩ = some (.int .i64 x) ∧ w'.cell? ⟨g, o + k * 3 + 1, none⟩ = some (.int .i64 n) ∧ w'.cell? ⟨g, o + k * 3 + 2, none⟩ = some (.int .i64 d) ∧ w'.cell? ⟨g2, o2 + k * 3, none⟩ = some (.int .i64 x) ∧ w'.cell? ⟨g2, o2 + k * 3 + 1, none⟩ = some (.int .i64 n) ∧ w'.cell? ⟨g2, o2 + k * 3 + 2, none⟩ = some (.int .i64 d)) (first | (exact keep6 (by assumption) (by assumption)) | (refine ⟨?_, ?_, ?_, ?_, ?_, ?_⟩ <;> (go_keep; done))) (first | (go_at_call 80; refine (leqHolding x n d _).mono ?_; rintro e w3 ⟨rfl, hb⟩))
     go_wp2_with fail
     go_roundw
     case rel => exact ⟨k + 1, by omega, by go_num, bel_tr HB.out.drew hb⟩
     case measure => simp [intOf]; omega
    ·go_wp2
     go_ret; exact ⟨rfl, hB⟩
theorem ltoTn1 (x0 x1 : Int) (w : World) :
  Calls Tryz.prog 61 #[.agg #[.int .i64 x0, .int .i64 x1]] w fun e w' => e = .returned (.agg #[.int .i64 x0, .int .i64 x1]) ∧ Below w.heap.size w w' := by
 go_enter Tryz.func61, Tryz.ntmps61
 go_wp2
 refine bodyPost_ret (v := .agg #[.int .i64 x0, .int .i64 x1]) (by simp [results, Tryz.results61, go_sem]) rfl ⟨rfl, by go_grown⟩
theorem leqTn1 (x0 x1 : Int) (w : World) :
  Calls Tryz.prog 81 #[.agg #[.int .i64 x0, .int .i64 x1], .agg #[.int .i64 x0, .int .i64 x1]] w fun e w' => e = .returned (.bool true) ∧ Below w.heap.size w w' := by
 go_enter Tryz.func81, Tryz.ntmps81
 go_wp2
 go_ret; exact ⟨rfl, by go_grown⟩
def CopiedTn (w : World) (xs : List Tn) (e : Ending) (w' : World) : Prop := ∃ g : Nat, e = .returned (.slice (some ⟨g, 0, none⟩) xs.length xs.length) ∧ w.heap.size ≤ g ∧ Flat w' g 108 (flatTn xs) ∧ Below w.heap.size w w'
theorem madeTn (w : World) (n : Nat) (t : TypeId) : (w.alloc (.cells (madeCells #[.int .i64 0, .int .i64 0] n) t)).rowIs w.heap.size t n (fun _ => .int .i64 0) := by
 have hs : (madeCells #[Value.int .i64 0, .int .i64 0] n).size = n := by unfold madeCells; simp
 refine ⟨_, heap_alloc_new w _, hs, fun i hi => ?_⟩
 have hm : i % 2 = 0 ∨ i % 2 = 1 := by omega
 unfold madeCells; rw [Array.getElem?_map, Array.getElem?_range, if_pos hi]
 show some ((#[Value.int .i64 0, .int .i64 0] : Array Value)[i % 2]!) = _
 rcases hm with h | h <;> rw [h] <;> rfl
theorem run_makeTn (n : Nat) (hn : n ≤ 1048576) (w : World) : (Instr.makeSlice 40 (.int .i64 (n : Int)) (.int .i64 (n : Int))).run Tryz.prog w = .ok (.slice (some ⟨w.heap.size, 0, none⟩) n n) (w.alloc (.cells (madeCells #[.int .i64 0, .int .i64 0] (n * 2)) 108)) := by
 obtain ⟨i0, hi0, hz0, hz1, hz2⟩ := info_parts infoTn; have := run_make (P := Tryz.prog) w 40 108 i0 _ Tryz.underlying40 hi0 hz0 .i64 .i64 (n : Int) (n : Int) (by omega) (by omega) (by rw [hz2]; omega) (by omega); simp only [Int.toNat_natCast, hz1] at this; exact this
theorem ltoTn (a : Option Addr) (cap : Nat) (xs : List Tn) (w : World) (h : IsTn w a xs) (hn : xs.length ≤ 1048576) :
  Calls Tryz.prog 23 #[.slice a xs.length cap] w (CopiedTn w xs) := by
 rcases h with rfl | ⟨g, o, rfl, hc⟩
 ·have hmk : ∀ W : World, (Instr.makeSlice 40 (.int .i64 0) (.int .i64 0)).run Tryz.prog W = .ok (.slice (some ⟨W.heap.size, 0, none⟩) 0 0) (W.alloc (.cells (madeCells #[.int .i64 0, .int .i64 0] 0) 108)) := fun W => run_makeTn 0 (by omega) W
  go_enter Tryz.func23, Tryz.ntmps23
  go_wp2
  go_rounds 1
  go_ret; exact ⟨_, rfl, Nat.le_refl _, Flat.row (madeTn w 0 _) (by simp [flatTn]) (fun j hj => by simp [flatTn] at hj), by go_grown⟩
 ·have hmk := run_makeTn xs.length hn
  have HC := Lib.hid hc; clear hc; go_enter Tryz.func23, Tryz.ntmps23
  go_wp2
  clear hmk
  go_loopw [4] (fun i wr => ∃ k : Nat, k ≤ xs.length ∧ i = .int .i64 k ∧ wr.rowIs w.heap.size 108 (xs.length * 2) (fun j => if j < k * 2 then .int .i64 ((flatTn xs).getD j 0) else .int .i64 0) ∧ Below w.heap.size w wr) (fun i _ => xs.length - (intOf i).toNat)
  case atStart => exact ⟨0, Nat.zero_le _, rfl, (madeTn w (xs.length * 2) _).congr (fun i hi => by simp), by go_grown⟩
  case round =>
   obtain ⟨k, hk, rfl, hrow, hB⟩ := hrel
   by_cases hlt : k < xs.length
   ·obtain ⟨c0, c1⟩ := tn_at HC.out hB hlt
    obtain ⟨g0, g1⟩ := flatTn_get xs k hlt
    have hd : ∀ j, k * 2 ≤ j → j < xs.length * 2 → wr.cell? ⟨w.heap.size, j, none⟩ = some (.int .i64 0) := fun j h0 h1 => by rw [hrow.cell h1, if_neg (by omega)]
    have d0 := hd (k * 2) (by omega) (by omega); have d1 := hd (k * 2 + 1) (by omega) (by omega)
    have hcon : ∀ x0 x1 : Int, (flatTn xs).getD (k * 2) 0 = x0 → (flatTn xs).getD (k * 2 + 1) 0 = x1 → ∀ W : World, W.heap[w.heap.size]? = wr.heap[w.heap.size]? →
      ((W.setCell ⟨w.heap.size, k * 2, none⟩ (.int .i64 x0)).setCell ⟨w.heap.size, k * 2 + 1, none⟩ (.int .i64 x1)).rowIs w.heap.size 108 (xs.length * 2) (fun j => if j < (k + 1) * 2 then .int .i64 ((flatTn xs).getD j 0) else .int .i64 0) := fun x0 x1 e0 e1 W hW => by
     have hrow' := World.rowIs.of_block hrow hW; refine ((hrow'.set (k * 2) (.int .i64 x0)).set (k * 2 + 1) (.int .i64 x1)).congr (fun j hj => ?_)
     show (if j = k * 2 + 1 then Value.int .i64 x1 else if j = k * 2 then .int .i64 x0 else if j < k * 2 then .int .i64 ((flatTn xs).getD j 0) else .int .i64 0) = _
     by_cases a1 : j = k * 2 + 1
     ·rw [if_pos a1, if_pos (by omega), a1, e1]
     rw [if_neg a1]
     by_cases a0 : j = k * 2
     ·rw [if_pos a0, if_pos (by omega), a0, e0]
     rw [if_neg a0]
     by_cases al : j < k * 2
     ·rw [if_pos al, if_pos (by omega)]
     ·rw [if_neg al, if_neg (by omega)]
    have hcon2 := hcon _ _ g0 g1; have hfr := hrow.frozen; have hlw := World.rowIs.lt hrow; clear hcon hd g0 g1; generalize xs.getD k tn0 = hh at c0 c1 hcon2; obtain ⟨x0, x1⟩ := hh; dsimp only at c0 c1 hcon2; have HR := Lib.hid hcon2; have HB := Lib.hid hB; have HF := Lib.hid hfr; clear hcon2 hrow hB hfr; go_wp2_with fail; refine (ltoTn1 x0 x1 _).mono ?_; rintro e w1 ⟨rfl, hb⟩; have hB1 := bel_tr HB.out hb; have hblk := hb.block w.heap.size hlw; have e0 := (hb.cell (p := ⟨w.heap.size, k * 2, none⟩) hlw).trans d0; have e1 := (hb.cell (p := ⟨w.heap.size, k * 2 + 1, none⟩) hlw).trans d1; have f0 := (hb.frozen (p := ⟨w.heap.size, k * 2, none⟩) hlw).trans (HF.out _); have f1 := (hb.frozen (p := ⟨w.heap.size, k * 2 + 1, none⟩) hlw).trans (HF.out _); clear hb d0 d1 c0 c1; go_wp2_with fail
    go_roundw
    case rel => exact ⟨k + 1, by omega, by go_num, HR.out w1 hblk, ((hB1.setCell (Nat.le_refl _) _).setCell (Nat.le_refl _) _)⟩
    case measure => simp [intOf]; omega
   ·have HR := Lib.hid hrow
    have HB := Lib.hid hB; clear hrow hB
    go_wp2
    go_ret; have hl := flatTn_len xs; exact ⟨_, rfl, Nat.le_refl _, Flat.row HR.out (by omega) (fun j hj => by rw [if_pos (by omega)]), HB.out⟩
theorem keepTn {w w' : World} {p0 p1 p2 p3 : Addr} {u0 u1 u2 u3 : Value} (hb : Below w.heap.size w w') (h : w.cell? p0 = some u0 ∧ w.cell? p1 = some u1 ∧ w.cell? p2 = some u2 ∧ w.cell? p3 = some u3) : w'.cell? p0 = some u0 ∧ w'.cell? p1 = some u1 ∧ w'.cell? p2 = some u2 ∧ w'.cell? p3 = some u3 := by
 have n : ∀ {p : Addr} {v : Value}, w.cell? p = some v → w'.cell? p = some v := fun h => (hb.cell (World.block_lt_of_cell? w _ h)).trans h
 obtain ⟨h0, h1, h2, h3⟩ := h; exact ⟨n h0, n h1, n h2, n h3⟩
theorem leqTn (a b : Option Addr) (ca cb : Nat) (xs : List Tn) (w : World) (ha : IsTn w a xs) (hb : IsTn w b xs) (hn : xs.length ≤ 1048576) :
  Calls Tryz.prog 32 #[.slice a xs.length ca, .slice b xs.length cb] w fun e w' => e = .returned (.bool true) ∧ Below w.heap.size w w' := by
 rcases ha with rfl | ⟨g, o, rfl, hc⟩
 ·go_enter Tryz.func32, Tryz.ntmps32
  go_wp2
  go_rounds 1
  go_ret; exact ⟨rfl, by go_grown⟩
 ·rcases hb with rfl | ⟨g2, o2, rfl, hc2⟩
  ·go_enter Tryz.func32, Tryz.ntmps32
   go_wp2
   go_rounds 1
   go_ret; exact ⟨rfl, by go_grown⟩
  ·have HC := Lib.hid hc
   have HD := Lib.hid hc2; clear hc hc2; go_enter Tryz.func32, Tryz.ntmps32
   go_wp2
   go_loopw [5] (fun i wr => ∃ k : Nat, k ≤ xs.length ∧ i = .int .i64 k ∧ Below w.heap.size w wr) (fun i _ => xs.length - (intOf i).toNat)
   case atStart => exact ⟨0, Nat.zero_le _, rfl, by go_grown⟩
   case round =>
    obtain ⟨k, hk, rfl, hB⟩ := hrel
    by_cases hlt : k < xs.length
    ·obtain ⟨c0, c1⟩ := tn_at HC.out hB hlt
     obtain ⟨d0, d1⟩ := tn_at HD.out hB hlt; generalize xs.getD k tn0 = hh at c0 c1 d0 d1; obtain ⟨x0, x1⟩ := hh; dsimp only at c0 c1 d0 d1; have HB := Lib.hid hB; clear hB
     have i0 : (0 : Int) ≤ (k : Int) := by omega
     have i1 : (k : Int) < (xs.length : Int) := by omega
     go_wp2_with fail
     go_region_held3 (fun w' => w'.cell? ⟨g, o + k * 2, none⟩ = some (.int .i64 x0) ∧ w'.cell? ⟨g, o + k * 2 + 1, none⟩ = some (.int .i64 x1) ∧ w'.cell? ⟨g2, o2 + k * 2, none⟩ = some (.int .i64 x0) ∧ w'.cell? ⟨g2, o2 + k * 2 + 1, none⟩ = some (.int .i64 x1)) (first | (exact keepTn (by assumption) (by assumption)) | (refine ⟨?_, ?_, ?_, ?_⟩ <;> (go_keep; done))) (first | (go_at_call 81; refine (leqTn1 x0 x1 _).mono ?_; rintro e w3 ⟨rfl, hb⟩))
     go_wp2_with fail
     go_roundw
     case rel => exact ⟨k + 1, by omega, by go_num, bel_tr HB.out.drew hb⟩
     case measure => simp [intOf]; omega
    ·go_wp2
     go_ret; exact ⟨rfl, hB⟩
theorem ltoNd1 (x0 x1 x2 x3 x4 : Int) (w : World) :
  Calls Tryz.prog 62 #[.agg #[.int .i64 x0, .int .i64 x1, .int .i64 x2, .int .i64 x3, .int .i64 x4]] w fun e w' => e = .returned (.agg #[.int .i64 x0, .int .i64 x1, .int .i64 x2, .int .i64 x3, .int .i64 x4]) ∧ Below w.heap.size w w' := by
 go_enter Tryz.func62, Tryz.ntmps62
 go_wp2
 refine bodyPost_ret (v := .agg #[.int .i64 x0, .int .i64 x1, .int .i64 x2, .int .i64 x3, .int .i64 x4]) (by simp [results, Tryz.results62, go_sem]) rfl ⟨rfl, by go_grown⟩
theorem leqNd1 (x0 x1 x2 x3 x4 : Int) (w : World) :
  Calls Tryz.prog 82 #[.agg #[.int .i64 x0, .int .i64 x1, .int .i64 x2, .int .i64 x3, .int .i64 x4], .agg #[.int .i64 x0, .int .i64 x1, .int .i64 x2, .int .i64 x3, .int .i64 x4]] w fun e w' => e = .returned (.bool true) ∧ Below w.heap.size w w' := by
 go_enter Tryz.func82, Tryz.ntmps82
 go_wp2
 go_ret; exact ⟨rfl, by go_grown⟩
def CopiedNd (w : World) (xs : List Nd) (e : Ending) (w' : World) : Prop := ∃ g : Nat, e = .returned (.slice (some ⟨g, 0, none⟩) xs.length xs.length) ∧ w.heap.size ≤ g ∧ Flat w' g 100 (flatNd xs) ∧ Below w.heap.size w w'
theorem madeNd (w : World) (n : Nat) (t : TypeId) : (w.alloc (.cells (madeCells #[.int .i64 0, .int .i64 0, .int .i64 0, .int .i64 0, .int .i64 0] n) t)).rowIs w.heap.size t n (fun _ => .int .i64 0) := by
 have hs : (madeCells #[Value.int .i64 0, .int .i64 0, .int .i64 0, .int .i64 0, .int .i64 0] n).size = n := by unfold madeCells; simp
 refine ⟨_, heap_alloc_new w _, hs, fun i hi => ?_⟩
 have hm : i % 5 = 0 ∨ i % 5 = 1 ∨ i % 5 = 2 ∨ i % 5 = 3 ∨ i % 5 = 4 := by omega
 unfold madeCells; rw [Array.getElem?_map, Array.getElem?_range, if_pos hi]
 show some ((#[Value.int .i64 0, .int .i64 0, .int .i64 0, .int .i64 0, .int .i64 0] : Array Value)[i % 5]!) = _
 rcases hm with h | h | h | h | h <;> rw [h] <;> rfl
theorem run_makeNd (n : Nat) (hn : n ≤ 1048576) (w : World) : (Instr.makeSlice 41 (.int .i64 (n : Int)) (.int .i64 (n : Int))).run Tryz.prog w = .ok (.slice (some ⟨w.heap.size, 0, none⟩) n n) (w.alloc (.cells (madeCells #[.int .i64 0, .int .i64 0, .int .i64 0, .int .i64 0, .int .i64 0] (n * 5)) 100)) := by
 obtain ⟨i0, hi0, hz0, hz1, hz2⟩ := info_parts infoNd; have := run_make (P := Tryz.prog) w 41 100 i0 _ Tryz.underlying41 hi0 hz0 .i64 .i64 (n : Int) (n : Int) (by omega) (by omega) (by rw [hz2]; omega) (by omega); simp only [Int.toNat_natCast, hz1] at this; exact this
theorem ltoNd (a : Option Addr) (cap : Nat) (xs : List Nd) (w : World) (h : IsNd w a xs) (hn : xs.length ≤ 1048576) :
  Calls Tryz.prog 24 #[.slice a xs.length cap] w (CopiedNd w xs) := by
 rcases h with rfl | ⟨g, o, rfl, hc⟩
 ·have hmk : ∀ W : World, (Instr.makeSlice 41 (.int .i64 0) (.int .i64 0)).run Tryz.prog W = .ok (.slice (some ⟨W.heap.size, 0, none⟩) 0 0) (W.alloc (.cells (madeCells #[.int .i64 0, .int .i64 0, .int .i64 0, .int .i64 0, .int .i64 0] 0) 100)) := fun W => run_makeNd 0 (by omega) W
  go_enter Tryz.func24, Tryz.ntmps24
  go_wp2
  go_rounds 1
  go_ret; exact ⟨_, rfl, Nat.le_refl _, Flat.row (madeNd w 0 _) (by simp [flatNd]) (fun j hj => by simp [flatNd] at hj), by go_grown⟩
 ·have hmk := run_makeNd xs.length hn
  have HC := Lib.hid hc; clear hc; go_enter Tryz.func24, Tryz.ntmps24
  go_wp2
  clear hmk
  go_loopw [4] (fun i wr => ∃ k : Nat, k ≤ xs.length ∧ i = .int .i64 k ∧ wr.rowIs w.heap.size 100 (xs.length * 5) (fun j => if j < k * 5 then .int .i64 ((flatNd xs).getD j 0) else .int .i64 0) ∧ Below w.heap.size w wr) (fun i _ => xs.length - (intOf i).toNat)
  case atStart => exact ⟨0, Nat.zero_le _, rfl, (madeNd w (xs.length * 5) _).congr (fun i hi => by simp), by go_grown⟩
  case round =>
   obtain ⟨k, hk, rfl, hrow, hB⟩ := hrel
   by_cases hlt : k < xs.length
   ·obtain ⟨c0, c1, c2, c3, c4⟩ := nd_at HC.out hB hlt
    obtain ⟨g0, g1, g2, g3, g4⟩ := flatNd_get xs k hlt
    have hd : ∀ j, k * 5 ≤ j → j < xs.length * 5 → wr.cell? ⟨w.heap.size, j, none⟩ = some (.int .i64 0) := fun j h0 h1 => by rw [hrow.cell h1, if_neg (by omega)]
    have d0 := hd (k * 5) (by omega) (by omega); have d1 := hd (k * 5 + 1) (by omega) (by omega); have d2 := hd (k * 5 + 2) (by omega) (by omega); have d3 := hd (k * 5 + 3) (by omega) (by omega); have d4 := hd (k * 5 + 4) (by omega) (by omega)
    have hcon : ∀ x0 x1 x2 x3 x4 : Int, (flatNd xs).getD (k * 5) 0 = x0 → (flatNd xs).getD (k * 5 + 1) 0 = x1 → (flatNd xs).getD (k * 5 + 2) 0 = x2 → (flatNd xs).getD (k * 5 + 3) 0 = x3 → (flatNd xs).getD (k * 5 + 4) 0 = x4 → ∀ W : World, W.heap[w.heap.size]? = wr.heap[w.heap.size]? →
      (((((W.setCell ⟨w.heap.size, k * 5, none⟩ (.int .i64 x0)).setCell ⟨w.heap.size, k * 5 + 1, none⟩ (.int .i64 x1)).setCell ⟨w.heap.size, k * 5 + 2, none⟩ (.int .i64 x2)).setCell ⟨w.heap.size, k * 5 + 3, none⟩ (.int .i64 x3)).setCell ⟨w.heap.size, k * 5 + 4, none⟩ (.int .i64 x4)).rowIs w.heap.size 100 (xs.length * 5) (fun j => if j < (k + 1) * 5 then .int .i64 ((flatNd xs).getD j 0) else .int .i64 0) := fun x0 x1 x2 x3 x4 e0 e1 e2 e3 e4 W hW => by
     have hrow' := World.rowIs.of_block hrow hW; refine (((((hrow'.set (k * 5) (.int .i64 x0)).set (k * 5 + 1) (.int .i64 x1)).set (k * 5 + 2) (.int .i64 x2)).set (k * 5 + 3) (.int .i64 x3)).set (k * 5 + 4) (.int .i64 x4)).congr (fun j hj => ?_)
     show (if j = k * 5 + 4 then Value.int .i64 x4 else if j = k * 5 + 3 then .int .i64 x3 else if j = k * 5 + 2 then .int .i64 x2 else if j = k * 5 + 1 then .int .i64 x1 else if j = k * 5 then .int .i64 x0 else if j < k * 5 then .int .i64 ((flatNd xs).getD j 0) else .int .i64 0) = _
     by_cases a4 : j = k * 5 + 4
     ·rw [if_pos a4, if_pos (by omega), a4, e4]
     rw [if_neg a4]
     by_cases a3 : j = k * 5 + 3
     ·rw [if_pos a3, if_pos (by omega), a3, e3]
     rw [if_neg a3]
     by_cases a2 : j = k * 5 + 2
     ·rw [if_pos a2, if_pos (by omega), a2, e2]
     rw [if_neg a2]
     by_cases a1 : j = k * 5 + 1
     ·rw [if_pos a1, if_pos (by omega), a1, e1]
     rw [if_neg a1]
     by_cases a0 : j = k * 5
     ·rw [if_pos a0, if_pos (by omega), a0, e0]
     rw [if_neg a0]
     by_cases al : j < k * 5
     ·rw [if_pos al, if_pos (by omega)]
     ·rw [if_neg al, if_neg (by omega)]
    have hcon2 := hcon _ _ _ _ _ g0 g1 g2 g3 g4; have hfr := hrow.frozen; have hlw := World.rowIs.lt hrow; clear hcon hd g0 g1 g2 g3 g4; generalize xs.getD k nd0 = hh at c0 c1 c2 c3 c4 hcon2; obtain ⟨x0, x1, x2, x3, x4⟩ := hh; dsimp only at c0 c1 c2 c3 c4 hcon2; have HR := Lib.hid hcon2; have HB := Lib.hid hB; have HF := Lib.hid hfr; clear hcon2 hrow hB hfr; go_wp2_with fail; refine (ltoNd1 x0 x1 x2 x3 x4 _).mono ?_; rintro e w1 ⟨rfl, hb⟩; have hB1 := bel_tr HB.out hb; have hblk := hb.block w.heap.size hlw; have e0 := (hb.cell (p := ⟨w.heap.size, k * 5, none⟩) hlw).trans d0; have e1 := (hb.cell (p := ⟨w.heap.size, k * 5 + 1, none⟩) hlw).trans d1; have e2 := (hb.cell (p := ⟨w.heap.size, k * 5 + 2, none⟩) hlw).trans d2; have e3 := (hb.cell (p := ⟨w.heap.size, k * 5 + 3, none⟩) hlw).trans d3; have e4 := (hb.cell (p := ⟨w.heap.size, k * 5 + 4, none⟩) hlw).trans d4; have f0 := (hb.frozen (p := ⟨w.heap.size, k * 5, none⟩) hlw).trans (HF.out _); have f1 := (hb.frozen (p := ⟨w.heap.size, k * 5 + 1, none⟩) hlw).trans (HF.out _); have f2 := (hb.frozen (p := ⟨w.heap.size, k * 5 + 2, none⟩) hlw).trans (HF.out _); have f3 := (hb.frozen (p := ⟨w.heap.size, k * 5 + 3, none⟩) hlw).trans (HF.out _); have f4 := (hb.frozen (p := ⟨w.heap.size, k * 5 + 4, none⟩) hlw).trans (HF.out _); clear hb d0 d1 d2 d3 d4 c0 c1 c2 c3 c4; go_wp2_with fail
    go_roundw
    case rel => exact ⟨k + 1, by omega, by go_num, HR.out w1 hblk, (((((hB1.setCell (Nat.le_refl _) _).setCell (Nat.le_refl _) _).setCell (Nat.le_refl _) _).setCell (Nat.le_refl _) _).setCell (Nat.le_refl _) _)⟩
    case measure => simp [intOf]; omega
   ·have HR := Lib.hid hrow
    have HB := Lib.hid hB; clear hrow hB
    go_wp2
    go_ret; have hl := flatNd_len xs; exact ⟨_, rfl, Nat.le_refl _, Flat.row HR.out (by omega) (fun j hj => by rw [if_pos (by omega)]), HB.out⟩
theorem keepNd {w w' : World} {p0 p1 p2 p3 p4 p5 p6 p7 p8 p9 : Addr} {u0 u1 u2 u3 u4 u5 u6 u7 u8 u9 : Value} (hb : Below w.heap.size w w') (h : w.cell? p0 = some u0 ∧ w.cell? p1 = some u1 ∧ w.cell? p2 = some u2 ∧ w.cell? p3 = some u3 ∧ w.cell? p4 = some u4 ∧ w.cell? p5 = some u5 ∧ w.cell? p6 = some u6 ∧ w.cell? p7 = some u7 ∧ w.cell? p8 = some u8 ∧ w.cell? p9 = some u9) : w'.cell? p0 = some u0 ∧ w'.cell? p1 = some u1 ∧ w'.cell? p2 = some u2 ∧ w'.cell? p3 = some u3 ∧ w'.cell? p4 = some u4 ∧ w'.cell? p5 = some u5 ∧ w'.cell? p6 = some u6 ∧ w'.cell? p7 = some u7 ∧ w'.cell? p8 = some u8 ∧ w'.cell? p9 = some u9 := by
 have n : ∀ {p : Addr} {v : Value}, w.cell? p = some v → w'.cell? p = some v := fun h => (hb.cell (World.block_lt_of_cell? w _ h)).trans h
 obtain ⟨h0, h1, h2, h3, h4, h5, h6, h7, h8, h9⟩ := h; exact ⟨n h0, n h1, n h2, n h3, n h4, n h5, n h6, n h7, n h8, n h9⟩
theorem leqNd (a b : Option Addr) (ca cb : Nat) (xs : List Nd) (w : World) (ha : IsNd w a xs) (hb : IsNd w b xs) (hn : xs.length ≤ 1048576) :
  Calls Tryz.prog 33 #[.slice a xs.length ca, .slice b xs.length cb] w fun e w' => e = .returned (.bool true) ∧ Below w.heap.size w w' := by
 rcases ha with rfl | ⟨g, o, rfl, hc⟩
 ·go_enter Tryz.func33, Tryz.ntmps33
  go_wp2
  go_rounds 1
  go_ret; exact ⟨rfl, by go_grown⟩
 ·rcases hb with rfl | ⟨g2, o2, rfl, hc2⟩
  ·go_enter Tryz.func33, Tryz.ntmps33
   go_wp2
   go_rounds 1
   go_ret; exact ⟨rfl, by go_grown⟩
  ·have HC := Lib.hid hc
   have HD := Lib.hid hc2; clear hc hc2; go_enter Tryz.func33, Tryz.ntmps33
   go_wp2
   go_loopw [5] (fun i wr => ∃ k : Nat, k ≤ xs.length ∧ i = .int .i64 k ∧ Below w.heap.size w wr) (fun i _ => xs.length - (intOf i).toNat)
   case atStart => exact ⟨0, Nat.zero_le _, rfl, by go_grown⟩
   case round =>
    obtain ⟨k, hk, rfl, hB⟩ := hrel
    by_cases hlt : k < xs.length
    ·obtain ⟨c0, c1, c2, c3, c4⟩ := nd_at HC.out hB hlt
     obtain ⟨d0, d1, d2, d3, d4⟩ := nd_at HD.out hB hlt; generalize xs.getD k nd0 = hh at c0 c1 c2 c3 c4 d0 d1 d2 d3 d4; obtain ⟨x0, x1, x2, x3, x4⟩ := hh; dsimp only at c0 c1 c2 c3 c4 d0 d1 d2 d3 d4; have HB := Lib.hid hB; clear hB
     have i0 : (0 : Int) ≤ (k : Int) := by omega
     have i1 : (k : Int) < (xs.length : Int) := by omega
     go_wp2_with fail
     go_region_held3 (fun w' => w'.cell? ⟨g, o + k * 5, none⟩ = some (.int .i64 x0) ∧ w'.cell? ⟨g, o + k * 5 + 1, none⟩ = some (.int .i64 x1) ∧ w'.cell? ⟨g, o + k * 5 + 2, none⟩ = some (.int .i64 x2) ∧ w'.cell? ⟨g, o + k * 5 + 3, none⟩ = some (.int .i64 x3) ∧ w'.cell? ⟨g, o + k * 5 + 4, none⟩ = some (.int .i64 x4) ∧ w'.cell? ⟨g2, o2 + k * 5, none⟩ = some (.int .i64 x0) ∧ w'.cell? ⟨g2, o2 + k * 5 + 1, none⟩ = some (.int .i64 x1) ∧ w'.cell? ⟨g2, o2 + k * 5 + 2, none⟩ = some (.int .i64 x2) ∧ w'.cell? ⟨g2, o2 + k * 5 + 3, none⟩ = some (.int .i64 x3) ∧ w'.cell? ⟨g2, o2 + k * 5 + 4, none⟩ = some (.int .i64 x4)) (first | (exact keepNd (by assumption) (by assumption)) | (refine ⟨?_, ?_, ?_, ?_, ?_, ?_, ?_, ?_, ?_, ?_⟩ <;> (go_keep; done))) (first | (go_at_call 82; refine (leqNd1 x0 x1 x2 x3 x4 _).mono ?_; rintro e w3 ⟨rfl, hb⟩))
     go_wp2_with fail
     go_roundw
     case rel => exact ⟨k + 1, by omega, by go_num, bel_tr HB.out.drew hb⟩
     case measure => simp [intOf]; omega
    ·go_wp2
     go_ret; exact ⟨rfl, hB⟩
theorem ltoAc1 (x0 x1 : Int) (w : World) :
  Calls Tryz.prog 63 #[.agg #[.int .i64 x0, .int .i64 x1]] w fun e w' => e = .returned (.agg #[.int .i64 x0, .int .i64 x1]) ∧ Below w.heap.size w w' := by
 go_enter Tryz.func63, Tryz.ntmps63
 go_wp2
 refine bodyPost_ret (v := .agg #[.int .i64 x0, .int .i64 x1]) (by simp [results, Tryz.results63, go_sem]) rfl ⟨rfl, by go_grown⟩
theorem leqAc1 (x0 x1 : Int) (w : World) :
  Calls Tryz.prog 83 #[.agg #[.int .i64 x0, .int .i64 x1], .agg #[.int .i64 x0, .int .i64 x1]] w fun e w' => e = .returned (.bool true) ∧ Below w.heap.size w w' := by
 go_enter Tryz.func83, Tryz.ntmps83
 go_wp2
 go_ret; exact ⟨rfl, by go_grown⟩
def CopiedAc (w : World) (xs : List Ac) (e : Ending) (w' : World) : Prop := ∃ g : Nat, e = .returned (.slice (some ⟨g, 0, none⟩) xs.length xs.length) ∧ w.heap.size ≤ g ∧ Flat w' g 114 (flatAc xs) ∧ Below w.heap.size w w'
theorem madeAc (w : World) (n : Nat) (t : TypeId) : (w.alloc (.cells (madeCells #[.int .i64 0, .int .i64 0] n) t)).rowIs w.heap.size t n (fun _ => .int .i64 0) := by
 have hs : (madeCells #[Value.int .i64 0, .int .i64 0] n).size = n := by unfold madeCells; simp
 refine ⟨_, heap_alloc_new w _, hs, fun i hi => ?_⟩
 have hm : i % 2 = 0 ∨ i % 2 = 1 := by omega
 unfold madeCells; rw [Array.getElem?_map, Array.getElem?_range, if_pos hi]
 show some ((#[Value.int .i64 0, .int .i64 0] : Array Value)[i % 2]!) = _
 rcases hm with h | h <;> rw [h] <;> rfl
theorem run_makeAc (n : Nat) (hn : n ≤ 1048576) (w : World) : (Instr.makeSlice 43 (.int .i64 (n : Int)) (.int .i64 (n : Int))).run Tryz.prog w = .ok (.slice (some ⟨w.heap.size, 0, none⟩) n n) (w.alloc (.cells (madeCells #[.int .i64 0, .int .i64 0] (n * 2)) 114)) := by
 obtain ⟨i0, hi0, hz0, hz1, hz2⟩ := info_parts infoAc; have := run_make (P := Tryz.prog) w 43 114 i0 _ Tryz.underlying43 hi0 hz0 .i64 .i64 (n : Int) (n : Int) (by omega) (by omega) (by rw [hz2]; omega) (by omega); simp only [Int.toNat_natCast, hz1] at this; exact this
theorem ltoAc (a : Option Addr) (cap : Nat) (xs : List Ac) (w : World) (h : IsAc w a xs) (hn : xs.length ≤ 1048576) :
  Calls Tryz.prog 26 #[.slice a xs.length cap] w (CopiedAc w xs) := by
 rcases h with rfl | ⟨g, o, rfl, hc⟩
 ·have hmk : ∀ W : World, (Instr.makeSlice 43 (.int .i64 0) (.int .i64 0)).run Tryz.prog W = .ok (.slice (some ⟨W.heap.size, 0, none⟩) 0 0) (W.alloc (.cells (madeCells #[.int .i64 0, .int .i64 0] 0) 114)) := fun W => run_makeAc 0 (by omega) W
  go_enter Tryz.func26, Tryz.ntmps26
  go_wp2
  go_rounds 1
  go_ret; exact ⟨_, rfl, Nat.le_refl _, Flat.row (madeAc w 0 _) (by simp [flatAc]) (fun j hj => by simp [flatAc] at hj), by go_grown⟩
 ·have hmk := run_makeAc xs.length hn
  have HC := Lib.hid hc; clear hc; go_enter Tryz.func26, Tryz.ntmps26
  go_wp2
  clear hmk
  go_loopw [4] (fun i wr => ∃ k : Nat, k ≤ xs.length ∧ i = .int .i64 k ∧ wr.rowIs w.heap.size 114 (xs.length * 2) (fun j => if j < k * 2 then .int .i64 ((flatAc xs).getD j 0) else .int .i64 0) ∧ Below w.heap.size w wr) (fun i _ => xs.length - (intOf i).toNat)
  case atStart => exact ⟨0, Nat.zero_le _, rfl, (madeAc w (xs.length * 2) _).congr (fun i hi => by simp), by go_grown⟩
  case round =>
   obtain ⟨k, hk, rfl, hrow, hB⟩ := hrel
   by_cases hlt : k < xs.length
   ·obtain ⟨c0, c1⟩ := ac_at HC.out hB hlt
    obtain ⟨g0, g1⟩ := flatAc_get xs k hlt
    have hd : ∀ j, k * 2 ≤ j → j < xs.length * 2 → wr.cell? ⟨w.heap.size, j, none⟩ = some (.int .i64 0) := fun j h0 h1 => by rw [hrow.cell h1, if_neg (by omega)]
    have d0 := hd (k * 2) (by omega) (by omega); have d1 := hd (k * 2 + 1) (by omega) (by omega)
    have hcon : ∀ x0 x1 : Int, (flatAc xs).getD (k * 2) 0 = x0 → (flatAc xs).getD (k * 2 + 1) 0 = x1 → ∀ W : World, W.heap[w.heap.size]? = wr.heap[w.heap.size]? →
      ((W.setCell ⟨w.heap.size, k * 2, none⟩ (.int .i64 x0)).setCell ⟨w.heap.size, k * 2 + 1, none⟩ (.int .i64 x1)).rowIs w.heap.size 114 (xs.length * 2) (fun j => if j < (k + 1) * 2 then .int .i64 ((flatAc xs).getD j 0) else .int .i64 0) := fun x0 x1 e0 e1 W hW => by
     have hrow' := World.rowIs.of_block hrow hW; refine ((hrow'.set (k * 2) (.int .i64 x0)).set (k * 2 + 1) (.int .i64 x1)).congr (fun j hj => ?_)
     show (if j = k * 2 + 1 then Value.int .i64 x1 else if j = k * 2 then .int .i64 x0 else if j < k * 2 then .int .i64 ((flatAc xs).getD j 0) else .int .i64 0) = _
     by_cases a1 : j = k * 2 + 1
     ·rw [if_pos a1, if_pos (by omega), a1, e1]
     rw [if_neg a1]
     by_cases a0 : j = k * 2
     ·rw [if_pos a0, if_pos (by omega), a0, e0]
     rw [if_neg a0]
     by_cases al : j < k * 2
     ·rw [if_pos al, if_pos (by omega)]
     ·rw [if_neg al, if_neg (by omega)]
    have hcon2 := hcon _ _ g0 g1; have hfr := hrow.frozen; have hlw := World.rowIs.lt hrow; clear hcon hd g0 g1; generalize xs.getD k ac0 = hh at c0 c1 hcon2; obtain ⟨x0, x1⟩ := hh; dsimp only at c0 c1 hcon2; have HR := Lib.hid hcon2; have HB := Lib.hid hB; have HF := Lib.hid hfr; clear hcon2 hrow hB hfr; go_wp2_with fail; refine (ltoAc1 x0 x1 _).mono ?_; rintro e w1 ⟨rfl, hb⟩; have hB1 := bel_tr HB.out hb; have hblk := hb.block w.heap.size hlw; have e0 := (hb.cell (p := ⟨w.heap.size, k * 2, none⟩) hlw).trans d0; have e1 := (hb.cell (p := ⟨w.heap.size, k * 2 + 1, none⟩) hlw).trans d1; have f0 := (hb.frozen (p := ⟨w.heap.size, k * 2, none⟩) hlw).trans (HF.out _); have f1 := (hb.frozen (p := ⟨w.heap.size, k * 2 + 1, none⟩) hlw).trans (HF.out _); clear hb d0 d1 c0 c1; go_wp2_with fail
    go_roundw
    case rel => exact ⟨k + 1, by omega, by go_num, HR.out w1 hblk, ((hB1.setCell (Nat.le_refl _) _).setCell (Nat.le_refl _) _)⟩
    case measure => simp [intOf]; omega
   ·have HR := Lib.hid hrow
    have HB := Lib.hid hB; clear hrow hB
    go_wp2
    go_ret; have hl := flatAc_len xs; exact ⟨_, rfl, Nat.le_refl _, Flat.row HR.out (by omega) (fun j hj => by rw [if_pos (by omega)]), HB.out⟩
theorem keepAc {w w' : World} {p0 p1 p2 p3 : Addr} {u0 u1 u2 u3 : Value} (hb : Below w.heap.size w w') (h : w.cell? p0 = some u0 ∧ w.cell? p1 = some u1 ∧ w.cell? p2 = some u2 ∧ w.cell? p3 = some u3) : w'.cell? p0 = some u0 ∧ w'.cell? p1 = some u1 ∧ w'.cell? p2 = some u2 ∧ w'.cell? p3 = some u3 := by
 have n : ∀ {p : Addr} {v : Value}, w.cell? p = some v → w'.cell? p = some v := fun h => (hb.cell (World.block_lt_of_cell? w _ h)).trans h
 obtain ⟨h0, h1, h2, h3⟩ := h; exact ⟨n h0, n h1, n h2, n h3⟩
theorem leqAc (a b : Option Addr) (ca cb : Nat) (xs : List Ac) (w : World) (ha : IsAc w a xs) (hb : IsAc w b xs) (hn : xs.length ≤ 1048576) :
  Calls Tryz.prog 35 #[.slice a xs.length ca, .slice b xs.length cb] w fun e w' => e = .returned (.bool true) ∧ Below w.heap.size w w' := by
 rcases ha with rfl | ⟨g, o, rfl, hc⟩
 ·go_enter Tryz.func35, Tryz.ntmps35
  go_wp2
  go_rounds 1
  go_ret; exact ⟨rfl, by go_grown⟩
 ·rcases hb with rfl | ⟨g2, o2, rfl, hc2⟩
  ·go_enter Tryz.func35, Tryz.ntmps35
   go_wp2
   go_rounds 1
   go_ret; exact ⟨rfl, by go_grown⟩
  ·have HC := Lib.hid hc
   have HD := Lib.hid hc2; clear hc hc2; go_enter Tryz.func35, Tryz.ntmps35
   go_wp2
   go_loopw [5] (fun i wr => ∃ k : Nat, k ≤ xs.length ∧ i = .int .i64 k ∧ Below w.heap.size w wr) (fun i _ => xs.length - (intOf i).toNat)
   case atStart => exact ⟨0, Nat.zero_le _, rfl, by go_grown⟩
   case round =>
    obtain ⟨k, hk, rfl, hB⟩ := hrel
    by_cases hlt : k < xs.length
    ·obtain ⟨c0, c1⟩ := ac_at HC.out hB hlt
     obtain ⟨d0, d1⟩ := ac_at HD.out hB hlt; generalize xs.getD k ac0 = hh at c0 c1 d0 d1; obtain ⟨x0, x1⟩ := hh; dsimp only at c0 c1 d0 d1; have HB := Lib.hid hB; clear hB
     have i0 : (0 : Int) ≤ (k : Int) := by omega
     have i1 : (k : Int) < (xs.length : Int) := by omega
     go_wp2_with fail
     go_region_held3 (fun w' => w'.cell? ⟨g, o + k * 2, none⟩ = some (.int .i64 x0) ∧ w'.cell? ⟨g, o + k * 2 + 1, none⟩ = some (.int .i64 x1) ∧ w'.cell? ⟨g2, o2 + k * 2, none⟩ = some (.int .i64 x0) ∧ w'.cell? ⟨g2, o2 + k * 2 + 1, none⟩ = some (.int .i64 x1)) (first | (exact keepAc (by assumption) (by assumption)) | (refine ⟨?_, ?_, ?_, ?_⟩ <;> (go_keep; done))) (first | (go_at_call 83; refine (leqAc1 x0 x1 _).mono ?_; rintro e w3 ⟨rfl, hb⟩))
     go_wp2_with fail
     go_roundw
     case rel => exact ⟨k + 1, by omega, by go_num, bel_tr HB.out.drew hb⟩
     case measure => simp [intOf]; omega
    ·go_wp2
     go_ret; exact ⟨rfl, hB⟩
theorem mkH (b : Option Addr) (c n base : Nat) (zs : List Int) (s : Int) (w : World) (h : RowF w base 103 (.slice b n c) n zs) (hl : zs.length = n * 3) (hn : n ≤ 1048576) (s0 : 0 ≤ s) (s1 : s ≤ 1000000000000) :
  Calls Tryz.prog 37 #[.slice b n c, .int .i64 s] w fun e w' => e = .returned (.int .i64 (s + ((n * 3 : Nat) : Int))) ∧ RowF w' base 103 (.slice b n c) n (mkS s (n * 3)) ∧ w.grownBy w' (Value.slice b n c).ownBlock := by
 rcases h with ⟨e, h0⟩ | ⟨g, cap, e, hg, F, hc⟩
 ·injection e with e1 e2 e3
  subst e1 e3 h0; go_enter Tryz.func37, Tryz.ntmps37
  go_wp2
  go_rounds 1
  go_ret; exact ⟨by simp, .inl ⟨rfl, rfl⟩, g_of (Below.refl _ _) _⟩
 ·injection e with e1 e2 e3
  subst e1 e3; have H := Lib.hid F; have HL := Lib.hid hl; clear F hl; go_enter Tryz.func37, Tryz.ntmps37
  go_wp2
  go_loopw [1, 5] (fun q i wr => ∃ k : Nat, k ≤ n ∧ i = .int .i64 k ∧ q = .int .i64 (s + ((k * 3 : Nat) : Int)) ∧ Flat wr g 103 (mkTo s zs (k * 3)) ∧ w.grownBy wr (some g)) (fun _ i _ => n - (intOf i).toNat)
  case atStart => exact ⟨0, Nat.zero_le _, rfl, by simp, by rw [Nat.zero_mul, mkTo_zero]; exact H.out, g_of (Below.refl _ _) _⟩
  case round =>
   obtain ⟨k, hk, rfl, rfl, hF, hG⟩ := hrel
   by_cases hlt : k < n
   ·have hzl := HL.out
    have l0 := mkTo_len s zs (k * 3); have c0 := hF.cell (j := k * 3) (by omega); have f0 := hF.frozen (k * 3); have c1 := hF.cell (j := k * 3 + 1) (by omega); have f1 := hF.frozen (k * 3 + 1); have c2 := hF.cell (j := k * 3 + 2) (by omega); have f2 := hF.frozen (k * 3 + 2)
    have n1 := (hF.set_ (i := k * 3) (by rw [mkTo_len]; omega) (s + ((k * 3 : Nat) : Int)))
    rw [mkTo_set s (by omega)] at n1
    have n2 := (n1.set_ (i := k * 3 + 1) (by rw [mkTo_len]; omega) (s + ((k * 3 + 1 : Nat) : Int)))
    rw [mkTo_set s (by omega)] at n2
    have n3 := (n2.set_ (i := k * 3 + 2) (by rw [mkTo_len]; omega) (s + ((k * 3 + 2 : Nat) : Int)))
    rw [mkTo_set s (by omega)] at n3; rw [show k * 3 + 2 + 1 = (k + 1) * 3 from by omega] at n3
    have e1 : (s + ((k * 3 + 1 : Nat) : Int)) = s + ((k * 3 : Nat) : Int) + 1 := by omega
    have e2 : (s + ((k * 3 + 2 : Nat) : Int)) = s + ((k * 3 : Nat) : Int) + 1 + 1 := by omega
    have e3 : (s + (((k + 1) * 3 : Nat) : Int)) = s + ((k * 3 : Nat) : Int) + 1 + 1 + 1 := by omega
    rw [e1, e2] at n3
    have hq : ((k * 3 : Nat) : Int) ≤ 3145728 := by omega
    have hq0 : 0 ≤ ((k * 3 : Nat) : Int) := by omega
    generalize ((k * 3 : Nat) : Int) = q at n3 e3 hq hq0 ⊢; generalize (mkTo s zs (k * 3)).getD (k * 3) 0 = z0 at c0; generalize (mkTo s zs (k * 3)).getD (k * 3 + 1) 0 = z1 at c1; generalize (mkTo s zs (k * 3)).getD (k * 3 + 2) 0 = z2 at c2; have HN := Lib.hid n3; have HG := Lib.hid hG; have H3 := Lib.hid e3; clear n1 n2 n3 e1 e2 e3 l0 hF hG hzl; go_wp2_with fail
    go_roundw
    case rel => exact ⟨k + 1, by omega, by go_num, by rw [H3.out], HN.out, (g_set2 (g_set2 (g_set2 HG.out)))⟩
    case measure => simp [intOf]; omega
   ·obtain rfl : n = k := by omega
    have HF := Lib.hid hF; have HG := Lib.hid hG; clear hF hG; go_wp2_with fail; go_ret; refine ⟨rfl, .inr ⟨g, c, rfl, hg, ?_, hc⟩, HG.out⟩; have := HF.out; rw [← HL.out, mkTo_end, HL.out] at this; exact this
theorem hkH (b : Option Addr) (c n base : Nat) (s : Int) (w : World) (h : RowF w base 103 (.slice b n c) n (mkS s (n * 3))) (hn : n ≤ 1048576) (s0 : 0 ≤ s) (s1 : s ≤ 1000000000000) :
  Calls Tryz.prog 42 #[.slice b n c, .int .i64 s] w fun e w' => e = .returned (.int .i64 (s + ((n * 3 : Nat) : Int))) ∧ w = w' := by
 rcases h with ⟨e, h0⟩ | ⟨g, cap, e, hg, F, hc⟩
 ·injection e with e1 e2 e3
  subst e1 e3 h0; go_enter Tryz.func42, Tryz.ntmps42
  go_wp2
  go_rounds 1
  go_ret; exact ⟨by simp, rfl⟩
 ·injection e with e1 e2 e3
  subst e1 e3; have H := Lib.hid F; clear F; go_enter Tryz.func42, Tryz.ntmps42
  go_wp2
  go_loop [1, 5] (fun q i => ∃ k : Nat, k ≤ n ∧ i = .int .i64 k ∧ q = .int .i64 (s + ((k * 3 : Nat) : Int))) (fun _ i => n - (intOf i).toNat)
  case atStart => exact ⟨0, Nat.zero_le _, rfl, by simp⟩
  case round =>
   obtain ⟨k, hk, rfl, rfl⟩ := hrel
   by_cases hlt : k < n
   ·have c0 := H.out.cell (j := k * 3) (by rw [mkS_len]; omega)
    have c1 := H.out.cell (j := k * 3 + 1) (by rw [mkS_len]; omega); have c2 := H.out.cell (j := k * 3 + 2) (by rw [mkS_len]; omega); rw [mkS_get _ _ (by omega)] at c0 c1 c2; rw [show (s + ((k * 3 + 1 : Nat) : Int)) = s + ((k * 3 : Nat) : Int) + 1 from by omega] at c1; rw [show (s + ((k * 3 + 2 : Nat) : Int)) = s + ((k * 3 : Nat) : Int) + 1 + 1 from by omega] at c2
    have e3 : (s + (((k + 1) * 3 : Nat) : Int)) = s + ((k * 3 : Nat) : Int) + 1 + 1 + 1 := by omega
    have hq : ((k * 3 : Nat) : Int) ≤ 3145728 := by omega
    have hq0 : 0 ≤ ((k * 3 : Nat) : Int) := by omega
    generalize ((k * 3 : Nat) : Int) = q at c0 c1 c2 e3 hq hq0 ⊢; have H3 := Lib.hid e3; clear e3; go_wp2_with fail
    go_round
    case rel => exact ⟨k + 1, by omega, by go_num, by rw [H3.out]⟩
    case measure => simp [intOf]; omega
   ·obtain rfl : n = k := by omega
    go_wp2_with fail; go_ret; exact ⟨rfl, rfl⟩
theorem mkTn (b : Option Addr) (c n base : Nat) (zs : List Int) (s : Int) (w : World) (h : RowF w base 108 (.slice b n c) n zs) (hl : zs.length = n * 2) (hn : n ≤ 1048576) (s0 : 0 ≤ s) (s1 : s ≤ 1000000000000) :
  Calls Tryz.prog 38 #[.slice b n c, .int .i64 s] w fun e w' => e = .returned (.int .i64 (s + ((n * 2 : Nat) : Int))) ∧ RowF w' base 108 (.slice b n c) n (mkS s (n * 2)) ∧ w.grownBy w' (Value.slice b n c).ownBlock := by
 rcases h with ⟨e, h0⟩ | ⟨g, cap, e, hg, F, hc⟩
 ·injection e with e1 e2 e3
  subst e1 e3 h0; go_enter Tryz.func38, Tryz.ntmps38
  go_wp2
  go_rounds 1
  go_ret; exact ⟨by simp, .inl ⟨rfl, rfl⟩, g_of (Below.refl _ _) _⟩
 ·injection e with e1 e2 e3
  subst e1 e3; have H := Lib.hid F; have HL := Lib.hid hl; clear F hl; go_enter Tryz.func38, Tryz.ntmps38
  go_wp2
  go_loopw [1, 5] (fun q i wr => ∃ k : Nat, k ≤ n ∧ i = .int .i64 k ∧ q = .int .i64 (s + ((k * 2 : Nat) : Int)) ∧ Flat wr g 108 (mkTo s zs (k * 2)) ∧ w.grownBy wr (some g)) (fun _ i _ => n - (intOf i).toNat)
  case atStart => exact ⟨0, Nat.zero_le _, rfl, by simp, by rw [Nat.zero_mul, mkTo_zero]; exact H.out, g_of (Below.refl _ _) _⟩
  case round =>
   obtain ⟨k, hk, rfl, rfl, hF, hG⟩ := hrel
   by_cases hlt : k < n
   ·have hzl := HL.out
    have l0 := mkTo_len s zs (k * 2); have c0 := hF.cell (j := k * 2) (by omega); have f0 := hF.frozen (k * 2); have c1 := hF.cell (j := k * 2 + 1) (by omega); have f1 := hF.frozen (k * 2 + 1)
    have n1 := (hF.set_ (i := k * 2) (by rw [mkTo_len]; omega) (s + ((k * 2 : Nat) : Int)))
    rw [mkTo_set s (by omega)] at n1
    have n2 := (n1.set_ (i := k * 2 + 1) (by rw [mkTo_len]; omega) (s + ((k * 2 + 1 : Nat) : Int)))
    rw [mkTo_set s (by omega)] at n2; rw [show k * 2 + 1 + 1 = (k + 1) * 2 from by omega] at n2
    have e1 : (s + ((k * 2 + 1 : Nat) : Int)) = s + ((k * 2 : Nat) : Int) + 1 := by omega
    have e2 : (s + (((k + 1) * 2 : Nat) : Int)) = s + ((k * 2 : Nat) : Int) + 1 + 1 := by omega
    rw [e1] at n2
    have hq : ((k * 2 : Nat) : Int) ≤ 2097152 := by omega
    have hq0 : 0 ≤ ((k * 2 : Nat) : Int) := by omega
    generalize ((k * 2 : Nat) : Int) = q at n2 e2 hq hq0 ⊢; generalize (mkTo s zs (k * 2)).getD (k * 2) 0 = z0 at c0; generalize (mkTo s zs (k * 2)).getD (k * 2 + 1) 0 = z1 at c1; have HN := Lib.hid n2; have HG := Lib.hid hG; have H3 := Lib.hid e2; clear n1 n2 e1 e2 l0 hF hG hzl; go_wp2_with fail
    go_roundw
    case rel => exact ⟨k + 1, by omega, by go_num, by rw [H3.out], HN.out, (g_set2 (g_set2 HG.out))⟩
    case measure => simp [intOf]; omega
   ·obtain rfl : n = k := by omega
    have HF := Lib.hid hF; have HG := Lib.hid hG; clear hF hG; go_wp2_with fail; go_ret; refine ⟨rfl, .inr ⟨g, c, rfl, hg, ?_, hc⟩, HG.out⟩; have := HF.out; rw [← HL.out, mkTo_end, HL.out] at this; exact this
theorem hkTn (b : Option Addr) (c n base : Nat) (s : Int) (w : World) (h : RowF w base 108 (.slice b n c) n (mkS s (n * 2))) (hn : n ≤ 1048576) (s0 : 0 ≤ s) (s1 : s ≤ 1000000000000) :
  Calls Tryz.prog 43 #[.slice b n c, .int .i64 s] w fun e w' => e = .returned (.int .i64 (s + ((n * 2 : Nat) : Int))) ∧ w = w' := by
 rcases h with ⟨e, h0⟩ | ⟨g, cap, e, hg, F, hc⟩
 ·injection e with e1 e2 e3
  subst e1 e3 h0; go_enter Tryz.func43, Tryz.ntmps43
  go_wp2
  go_rounds 1
  go_ret; exact ⟨by simp, rfl⟩
 ·injection e with e1 e2 e3
  subst e1 e3; have H := Lib.hid F; clear F; go_enter Tryz.func43, Tryz.ntmps43
  go_wp2
  go_loop [1, 5] (fun q i => ∃ k : Nat, k ≤ n ∧ i = .int .i64 k ∧ q = .int .i64 (s + ((k * 2 : Nat) : Int))) (fun _ i => n - (intOf i).toNat)
  case atStart => exact ⟨0, Nat.zero_le _, rfl, by simp⟩
  case round =>
   obtain ⟨k, hk, rfl, rfl⟩ := hrel
   by_cases hlt : k < n
   ·have c0 := H.out.cell (j := k * 2) (by rw [mkS_len]; omega)
    have c1 := H.out.cell (j := k * 2 + 1) (by rw [mkS_len]; omega); rw [mkS_get _ _ (by omega)] at c0 c1; rw [show (s + ((k * 2 + 1 : Nat) : Int)) = s + ((k * 2 : Nat) : Int) + 1 from by omega] at c1
    have e3 : (s + (((k + 1) * 2 : Nat) : Int)) = s + ((k * 2 : Nat) : Int) + 1 + 1 := by omega
    have hq : ((k * 2 : Nat) : Int) ≤ 2097152 := by omega
    have hq0 : 0 ≤ ((k * 2 : Nat) : Int) := by omega
    generalize ((k * 2 : Nat) : Int) = q at c0 c1 e3 hq hq0 ⊢; have H3 := Lib.hid e3; clear e3; go_wp2_with fail
    go_round
    case rel => exact ⟨k + 1, by omega, by go_num, by rw [H3.out]⟩
    case measure => simp [intOf]; omega
   ·obtain rfl : n = k := by omega
    go_wp2_with fail; go_ret; exact ⟨rfl, rfl⟩
theorem mkNd (b : Option Addr) (c n base : Nat) (zs : List Int) (s : Int) (w : World) (h : RowF w base 100 (.slice b n c) n zs) (hl : zs.length = n * 5) (hn : n ≤ 1048576) (s0 : 0 ≤ s) (s1 : s ≤ 1000000000000) :
  Calls Tryz.prog 39 #[.slice b n c, .int .i64 s] w fun e w' => e = .returned (.int .i64 (s + ((n * 5 : Nat) : Int))) ∧ RowF w' base 100 (.slice b n c) n (mkS s (n * 5)) ∧ w.grownBy w' (Value.slice b n c).ownBlock := by
 rcases h with ⟨e, h0⟩ | ⟨g, cap, e, hg, F, hc⟩
 ·injection e with e1 e2 e3
  subst e1 e3 h0; go_enter Tryz.func39, Tryz.ntmps39
  go_wp2
  go_rounds 1
  go_ret; exact ⟨by simp, .inl ⟨rfl, rfl⟩, g_of (Below.refl _ _) _⟩
 ·injection e with e1 e2 e3
  subst e1 e3; have H := Lib.hid F; have HL := Lib.hid hl; clear F hl; go_enter Tryz.func39, Tryz.ntmps39
  go_wp2
  go_loopw [1, 5] (fun q i wr => ∃ k : Nat, k ≤ n ∧ i = .int .i64 k ∧ q = .int .i64 (s + ((k * 5 : Nat) : Int)) ∧ Flat wr g 100 (mkTo s zs (k * 5)) ∧ w.grownBy wr (some g)) (fun _ i _ => n - (intOf i).toNat)
  case atStart => exact ⟨0, Nat.zero_le _, rfl, by simp, by rw [Nat.zero_mul, mkTo_zero]; exact H.out, g_of (Below.refl _ _) _⟩
  case round =>
   obtain ⟨k, hk, rfl, rfl, hF, hG⟩ := hrel
   by_cases hlt : k < n
   ·have hzl := HL.out
    have l0 := mkTo_len s zs (k * 5); have c0 := hF.cell (j := k * 5) (by omega); have f0 := hF.frozen (k * 5); have c1 := hF.cell (j := k * 5 + 1) (by omega); have f1 := hF.frozen (k * 5 + 1); have c2 := hF.cell (j := k * 5 + 2) (by omega); have f2 := hF.frozen (k * 5 + 2); have c3 := hF.cell (j := k * 5 + 3) (by omega); have f3 := hF.frozen (k * 5 + 3); have c4 := hF.cell (j := k * 5 + 4) (by omega); have f4 := hF.frozen (k * 5 + 4)
    have n1 := (hF.set_ (i := k * 5) (by rw [mkTo_len]; omega) (s + ((k * 5 : Nat) : Int)))
    rw [mkTo_set s (by omega)] at n1
    have n2 := (n1.set_ (i := k * 5 + 1) (by rw [mkTo_len]; omega) (s + ((k * 5 + 1 : Nat) : Int)))
    rw [mkTo_set s (by omega)] at n2
    have n3 := (n2.set_ (i := k * 5 + 2) (by rw [mkTo_len]; omega) (s + ((k * 5 + 2 : Nat) : Int)))
    rw [mkTo_set s (by omega)] at n3
    have n4 := (n3.set_ (i := k * 5 + 3) (by rw [mkTo_len]; omega) (s + ((k * 5 + 3 : Nat) : Int)))
    rw [mkTo_set s (by omega)] at n4
    have n5 := (n4.set_ (i := k * 5 + 4) (by rw [mkTo_len]; omega) (s + ((k * 5 + 4 : Nat) : Int)))
    rw [mkTo_set s (by omega)] at n5; rw [show k * 5 + 4 + 1 = (k + 1) * 5 from by omega] at n5
    have e1 : (s + ((k * 5 + 1 : Nat) : Int)) = s + ((k * 5 : Nat) : Int) + 1 := by omega
    have e2 : (s + ((k * 5 + 2 : Nat) : Int)) = s + ((k * 5 : Nat) : Int) + 1 + 1 := by omega
    have e3 : (s + ((k * 5 + 3 : Nat) : Int)) = s + ((k * 5 : Nat) : Int) + 1 + 1 + 1 := by omega
    have e4 : (s + ((k * 5 + 4 : Nat) : Int)) = s + ((k * 5 : Nat) : Int) + 1 + 1 + 1 + 1 := by omega
    have e5 : (s + (((k + 1) * 5 : Nat) : Int)) = s + ((k * 5 : Nat) : Int) + 1 + 1 + 1 + 1 + 1 := by omega
    rw [e1, e2, e3, e4] at n5
    have hq : ((k * 5 : Nat) : Int) ≤ 5242880 := by omega
    have hq0 : 0 ≤ ((k * 5 : Nat) : Int) := by omega
    generalize ((k * 5 : Nat) : Int) = q at n5 e5 hq hq0 ⊢; generalize (mkTo s zs (k * 5)).getD (k * 5) 0 = z0 at c0; generalize (mkTo s zs (k * 5)).getD (k * 5 + 1) 0 = z1 at c1; generalize (mkTo s zs (k * 5)).getD (k * 5 + 2) 0 = z2 at c2; generalize (mkTo s zs (k * 5)).getD (k * 5 + 3) 0 = z3 at c3; generalize (mkTo s zs (k * 5)).getD (k * 5 + 4) 0 = z4 at c4; have HN := Lib.hid n5; have HG := Lib.hid hG; have H3 := Lib.hid e5; clear n1 n2 n3 n4 n5 e1 e2 e3 e4 e5 l0 hF hG hzl; go_wp2_with fail
    go_roundw
    case rel => exact ⟨k + 1, by omega, by go_num, by rw [H3.out], HN.out, (g_set2 (g_set2 (g_set2 (g_set2 (g_set2 HG.out)))))⟩
    case measure => simp [intOf]; omega
   ·obtain rfl : n = k := by omega
    have HF := Lib.hid hF; have HG := Lib.hid hG; clear hF hG; go_wp2_with fail; go_ret; refine ⟨rfl, .inr ⟨g, c, rfl, hg, ?_, hc⟩, HG.out⟩; have := HF.out; rw [← HL.out, mkTo_end, HL.out] at this; exact this
theorem hkNd (b : Option Addr) (c n base : Nat) (s : Int) (w : World) (h : RowF w base 100 (.slice b n c) n (mkS s (n * 5))) (hn : n ≤ 1048576) (s0 : 0 ≤ s) (s1 : s ≤ 1000000000000) :
  Calls Tryz.prog 44 #[.slice b n c, .int .i64 s] w fun e w' => e = .returned (.int .i64 (s + ((n * 5 : Nat) : Int))) ∧ w = w' := by
 rcases h with ⟨e, h0⟩ | ⟨g, cap, e, hg, F, hc⟩
 ·injection e with e1 e2 e3
  subst e1 e3 h0; go_enter Tryz.func44, Tryz.ntmps44
  go_wp2
  go_rounds 1
  go_ret; exact ⟨by simp, rfl⟩
 ·injection e with e1 e2 e3
  subst e1 e3; have H := Lib.hid F; clear F; go_enter Tryz.func44, Tryz.ntmps44
  go_wp2
  go_loop [1, 5] (fun q i => ∃ k : Nat, k ≤ n ∧ i = .int .i64 k ∧ q = .int .i64 (s + ((k * 5 : Nat) : Int))) (fun _ i => n - (intOf i).toNat)
  case atStart => exact ⟨0, Nat.zero_le _, rfl, by simp⟩
  case round =>
   obtain ⟨k, hk, rfl, rfl⟩ := hrel
   by_cases hlt : k < n
   ·have c0 := H.out.cell (j := k * 5) (by rw [mkS_len]; omega)
    have c1 := H.out.cell (j := k * 5 + 1) (by rw [mkS_len]; omega); have c2 := H.out.cell (j := k * 5 + 2) (by rw [mkS_len]; omega); have c3 := H.out.cell (j := k * 5 + 3) (by rw [mkS_len]; omega); have c4 := H.out.cell (j := k * 5 + 4) (by rw [mkS_len]; omega); rw [mkS_get _ _ (by omega)] at c0 c1 c2 c3 c4; rw [show (s + ((k * 5 + 1 : Nat) : Int)) = s + ((k * 5 : Nat) : Int) + 1 from by omega] at c1; rw [show (s + ((k * 5 + 2 : Nat) : Int)) = s + ((k * 5 : Nat) : Int) + 1 + 1 from by omega] at c2; rw [show (s + ((k * 5 + 3 : Nat) : Int)) = s + ((k * 5 : Nat) : Int) + 1 + 1 + 1 from by omega] at c3; rw [show (s + ((k * 5 + 4 : Nat) : Int)) = s + ((k * 5 : Nat) : Int) + 1 + 1 + 1 + 1 from by omega] at c4
    have e3 : (s + (((k + 1) * 5 : Nat) : Int)) = s + ((k * 5 : Nat) : Int) + 1 + 1 + 1 + 1 + 1 := by omega
    have hq : ((k * 5 : Nat) : Int) ≤ 5242880 := by omega
    have hq0 : 0 ≤ ((k * 5 : Nat) : Int) := by omega
    generalize ((k * 5 : Nat) : Int) = q at c0 c1 c2 c3 c4 e3 hq hq0 ⊢; have H3 := Lib.hid e3; clear e3; go_wp2_with fail
    go_round
    case rel => exact ⟨k + 1, by omega, by go_num, by rw [H3.out]⟩
    case measure => simp [intOf]; omega
   ·obtain rfl : n = k := by omega
    go_wp2_with fail; go_ret; exact ⟨rfl, rfl⟩
theorem mkAc (b : Option Addr) (c n base : Nat) (zs : List Int) (s : Int) (w : World) (h : RowF w base 114 (.slice b n c) n zs) (hl : zs.length = n * 2) (hn : n ≤ 1048576) (s0 : 0 ≤ s) (s1 : s ≤ 1000000000000) :
  Calls Tryz.prog 40 #[.slice b n c, .int .i64 s] w fun e w' => e = .returned (.int .i64 (s + ((n * 2 : Nat) : Int))) ∧ RowF w' base 114 (.slice b n c) n (mkS s (n * 2)) ∧ w.grownBy w' (Value.slice b n c).ownBlock := by
 rcases h with ⟨e, h0⟩ | ⟨g, cap, e, hg, F, hc⟩
 ·injection e with e1 e2 e3
  subst e1 e3 h0; go_enter Tryz.func40, Tryz.ntmps40
  go_wp2
  go_rounds 1
  go_ret; exact ⟨by simp, .inl ⟨rfl, rfl⟩, g_of (Below.refl _ _) _⟩
 ·injection e with e1 e2 e3
  subst e1 e3; have H := Lib.hid F; have HL := Lib.hid hl; clear F hl; go_enter Tryz.func40, Tryz.ntmps40
  go_wp2
  go_loopw [1, 5] (fun q i wr => ∃ k : Nat, k ≤ n ∧ i = .int .i64 k ∧ q = .int .i64 (s + ((k * 2 : Nat) : Int)) ∧ Flat wr g 114 (mkTo s zs (k * 2)) ∧ w.grownBy wr (some g)) (fun _ i _ => n - (intOf i).toNat)
  case atStart => exact ⟨0, Nat.zero_le _, rfl, by simp, by rw [Nat.zero_mul, mkTo_zero]; exact H.out, g_of (Below.refl _ _) _⟩
  case round =>
   obtain ⟨k, hk, rfl, rfl, hF, hG⟩ := hrel
   by_cases hlt : k < n
   ·have hzl := HL.out
    have l0 := mkTo_len s zs (k * 2); have c0 := hF.cell (j := k * 2) (by omega); have f0 := hF.frozen (k * 2); have c1 := hF.cell (j := k * 2 + 1) (by omega); have f1 := hF.frozen (k * 2 + 1)
    have n1 := (hF.set_ (i := k * 2) (by rw [mkTo_len]; omega) (s + ((k * 2 : Nat) : Int)))
    rw [mkTo_set s (by omega)] at n1
    have n2 := (n1.set_ (i := k * 2 + 1) (by rw [mkTo_len]; omega) (s + ((k * 2 + 1 : Nat) : Int)))
    rw [mkTo_set s (by omega)] at n2; rw [show k * 2 + 1 + 1 = (k + 1) * 2 from by omega] at n2
    have e1 : (s + ((k * 2 + 1 : Nat) : Int)) = s + ((k * 2 : Nat) : Int) + 1 := by omega
    have e2 : (s + (((k + 1) * 2 : Nat) : Int)) = s + ((k * 2 : Nat) : Int) + 1 + 1 := by omega
    rw [e1] at n2
    have hq : ((k * 2 : Nat) : Int) ≤ 2097152 := by omega
    have hq0 : 0 ≤ ((k * 2 : Nat) : Int) := by omega
    generalize ((k * 2 : Nat) : Int) = q at n2 e2 hq hq0 ⊢; generalize (mkTo s zs (k * 2)).getD (k * 2) 0 = z0 at c0; generalize (mkTo s zs (k * 2)).getD (k * 2 + 1) 0 = z1 at c1; have HN := Lib.hid n2; have HG := Lib.hid hG; have H3 := Lib.hid e2; clear n1 n2 e1 e2 l0 hF hG hzl; go_wp2_with fail
    go_roundw
    case rel => exact ⟨k + 1, by omega, by go_num, by rw [H3.out], HN.out, (g_set2 (g_set2 HG.out))⟩
    case measure => simp [intOf]; omega
   ·obtain rfl : n = k := by omega
    have HF := Lib.hid hF; have HG := Lib.hid hG; clear hF hG; go_wp2_with fail; go_ret; refine ⟨rfl, .inr ⟨g, c, rfl, hg, ?_, hc⟩, HG.out⟩; have := HF.out; rw [← HL.out, mkTo_end, HL.out] at this; exact this
theorem hkAc (b : Option Addr) (c n base : Nat) (s : Int) (w : World) (h : RowF w base 114 (.slice b n c) n (mkS s (n * 2))) (hn : n ≤ 1048576) (s0 : 0 ≤ s) (s1 : s ≤ 1000000000000) :
  Calls Tryz.prog 45 #[.slice b n c, .int .i64 s] w fun e w' => e = .returned (.int .i64 (s + ((n * 2 : Nat) : Int))) ∧ w = w' := by
 rcases h with ⟨e, h0⟩ | ⟨g, cap, e, hg, F, hc⟩
 ·injection e with e1 e2 e3
  subst e1 e3 h0; go_enter Tryz.func45, Tryz.ntmps45
  go_wp2
  go_rounds 1
  go_ret; exact ⟨by simp, rfl⟩
 ·injection e with e1 e2 e3
  subst e1 e3; have H := Lib.hid F; clear F; go_enter Tryz.func45, Tryz.ntmps45
  go_wp2
  go_loop [1, 5] (fun q i => ∃ k : Nat, k ≤ n ∧ i = .int .i64 k ∧ q = .int .i64 (s + ((k * 2 : Nat) : Int))) (fun _ i => n - (intOf i).toNat)
  case atStart => exact ⟨0, Nat.zero_le _, rfl, by simp⟩
  case round =>
   obtain ⟨k, hk, rfl, rfl⟩ := hrel
   by_cases hlt : k < n
   ·have c0 := H.out.cell (j := k * 2) (by rw [mkS_len]; omega)
    have c1 := H.out.cell (j := k * 2 + 1) (by rw [mkS_len]; omega); rw [mkS_get _ _ (by omega)] at c0 c1; rw [show (s + ((k * 2 + 1 : Nat) : Int)) = s + ((k * 2 : Nat) : Int) + 1 from by omega] at c1
    have e3 : (s + (((k + 1) * 2 : Nat) : Int)) = s + ((k * 2 : Nat) : Int) + 1 + 1 := by omega
    have hq : ((k * 2 : Nat) : Int) ≤ 2097152 := by omega
    have hq0 : 0 ≤ ((k * 2 : Nat) : Int) := by omega
    generalize ((k * 2 : Nat) : Int) = q at c0 c1 e3 hq hq0 ⊢; have H3 := Lib.hid e3; clear e3; go_wp2_with fail
    go_round
    case rel => exact ⟨k + 1, by omega, by go_num, by rw [H3.out]⟩
    case measure => simp [intOf]; omega
   ·obtain rfl : n = k := by omega
    go_wp2_with fail; go_ret; exact ⟨rfl, rfl⟩
theorem ltoBasin (n d : Int) (w : World) :
  Calls Tryz.prog 25 #[.agg #[.int .i64 n, .int .i64 d]] w fun e w' => e = .returned (.agg #[.int .i64 n, .int .i64 d]) ∧ Below w.heap.size w w' := by
 go_enter Tryz.func25, Tryz.ntmps25
 go_wp2
 refine bodyPost_ret (v := .agg #[.int .i64 n, .int .i64 d]) (by simp [results, Tryz.results25, go_sem]) rfl ⟨rfl, by go_grown⟩
theorem leqBasin (n d : Int) (w : World) :
  Calls Tryz.prog 34 #[.agg #[.int .i64 n, .int .i64 d], .agg #[.int .i64 n, .int .i64 d]] w fun e w' => e = .returned (.bool true) ∧ Below w.heap.size w w' := by
 go_enter Tryz.func34, Tryz.ntmps34
 go_wp2
 go_ret; exact ⟨rfl, by go_grown⟩
structure OffW (w w' : World) (S : Nat → Prop) : Prop where
 os : w'.os = w.os
 tape : w'.tape = w.tape
 output : w'.output = w.output
 size : w.heap.size ≤ w'.heap.size
 block : ∀ i, i < w.heap.size → ¬ S i → w'.heap[i]? = w.heap[i]?
theorem OffW.of_grown {w w' : World} {row : Option Nat} {S : Nat → Prop} (h : w.grownBy w' row) (hS : ∀ q, row = some q → S q) : OffW w w' S :=
 ⟨h.os, h.tape, h.output, h.size, fun i hi hn => h.block i hi (fun e => hn (hS i e.symm))⟩
theorem OffW.of_below {w w' : World} {S : Nat → Prop} (h : Below w.heap.size w w') : OffW w w' S := ⟨h.os, h.tape, h.output, h.size, fun i hi _ => h.block i hi⟩
theorem OffW.trans {a b c : World} {S : Nat → Prop} (h : OffW a b S) (g : OffW b c S) : OffW a c S :=
 ⟨g.os.trans h.os, g.tape.trans h.tape, g.output.trans h.output, Nat.le_trans h.size g.size, fun i hi hn => (g.block i (Nat.lt_of_lt_of_le hi h.size) hn).trans (h.block i hi hn)⟩
theorem OffW.below {w0 w w' : World} {S : Nat → Prop} (B : Below w0.heap.size w0 w) (h : OffW w w' S) (hS : ∀ q, S q → w0.heap.size ≤ q) : Below w0.heap.size w0 w' :=
 ⟨h.os.trans B.os, h.tape.trans B.tape, h.output.trans B.output, Nat.le_trans B.size h.size, fun i hi => (h.block i (Nat.lt_of_lt_of_le hi B.size) (fun c => Nat.lt_irrefl _ (Nat.lt_of_lt_of_le hi (hS i c)))).trans (B.block i hi)⟩
theorem OffW.set {w W : World} {b j : Nat} {v : Value} {S : Nat → Prop} (h : OffW w W S) (hb : w.heap.size ≤ b) : OffW w (W.setCell ⟨b, j, none⟩ v) S :=
 ⟨h.os, h.tape, h.output, by rw [World.size_setCell]; exact h.size, fun i hi hn => (Below.heap_setCell W ⟨b, j, none⟩ v i (by show i ≠ b; omega)).trans (h.block i hi hn)⟩
theorem own_ge {w : World} {base n size g : Nat} {t : TypeId} {v : Value} {xs : List Value} (h : w.ownsRow base t size v n xs) (e : v.ownBlock = some g) : base ≤ g ∧ g < w.heap.size ∧ ∃ cs, w.heap[g]? = some (Obj.cells cs t (0, 0)) := by
 rcases h.2 with ⟨hv, _⟩ | ⟨q, cap, cur, hv, hg, hb, _⟩
 ·rw [hv] at e; cases e
 ·rw [hv] at e; injection e with e; subst e; exact ⟨hg, Blk.lt hb, cur, hb⟩
theorem own_other {w : World} {base n size b : Nat} {t t' : TypeId} {v : Value} {xs : List Value} {cs : Array Value} (h : w.ownsRow base t size v n xs) (K : w.heap[b]? = some (Obj.cells cs t' (0, 0))) (hne : t' ≠ t) : v.ownBlock ≠ some b := by
 intro e; obtain ⟨_, _, c, hc⟩ := own_ge h e; rw [K] at hc; injection hc with hc; injection hc with _ hc; exact hne hc
theorem own_blk {w w' : World} {base n size b : Nat} {t t' : TypeId} {v : Value} {xs : List Value} {cs : Array Value} (h : w.ownsRow base t size v n xs) (K : Blk w b t' cs) (hne : t' ≠ t) (hG : w.grownBy w' v.ownBlock) : Blk w' b t' cs :=
 K.grown hG (fun e => own_other h K hne e.symm)
theorem own_offW {w w' : World} {base n size : Nat} {t : TypeId} {v : Value} {xs : List Value} (h : w.ownsRow base t size v n xs) (hG : w.grownBy w' v.ownBlock) : OffW w w' (fun q => v.ownBlock = some q) := OffW.of_grown hG (fun _ e => e)
theorem own_row {w w' : World} {base n size base' n' size' : Nat} {t t' : TypeId} {v v' : Value} {xs xs' : List Value} (h : w.ownsRow base t size v n xs) (k : w.ownsRow base' t' size' v' n' xs') (hne : t' ≠ t) (hG : w.grownBy w' v.ownBlock) : w'.ownsRow base' t' size' v' n' xs' :=
 rowH k (fun g cs hg => hG.block g (Blk.lt hg) (fun e => own_other h hg hne e.symm))
theorem wpList_store10 {P : Program} {ops : Array Oper} {rest : List Oper} {op : Oper} {a : Act} {w : World} {Q : Exit → Act → World → Prop} (hgd : op.guard = none) (ty : TypeId) (x y : Operand) (ho : op.op = .store ty x y)
  (b : Nat) (v0 v1 v2 v3 v4 v5 v6 v7 v8 v9 : Value) (hx : a.eval x = .pointer (some ⟨b, 0, none⟩)) (hy : a.eval y = .agg #[v0, v1, v2, v3, v4, v5, v6, v7, v8, v9]) {t : TypeId} {u0 u1 u2 u3 u4 u5 u6 u7 u8 u9 : Value} (K : Blk w b t #[u0, u1, u2, u3, u4, u5, u6, u7, u8, u9])
  (hi : (P.info? ty).map (·.size) = some 10) (h1 : (v0.oneCell' && v1.oneCell' && v2.oneCell' && v3.oneCell' && v4.oneCell' && v5.oneCell' && v6.oneCell' && v7.oneCell' && v8.oneCell' && v9.oneCell') = true)
  (h : wpList P ops Q rest (a.put op.dst undef) (sets10 w b v0 v1 v2 v3 v4 v5 v6 v7 v8 v9)) : wpList P ops Q (op :: rest) a w := by
 have h2 : (#[v0, v1, v2, v3, v4, v5, v6, v7, v8, v9] : Array Value).all (·.oneCell') = true := by
  simp only [Bool.and_eq_true] at h1; obtain ⟨⟨⟨⟨⟨⟨⟨⟨⟨a0, a1⟩, a2⟩, a3⟩, a4⟩, a5⟩, a6⟩, a7⟩, a8⟩, a9⟩ := h1
  simp [a0, a1, a2, a3, a4, a5, a6, a7, a8, a9]
 refine wpList_store_mid hgd ty x y ho b 0 #[v0, v1, v2, v3, v4, v5, v6, v7, v8, v9] hx hy (fun j hj => ?_) hi h2 ?_
 ·have hj' : j < 10 := hj
  have hc : ∃ v, (#[u0, u1, u2, u3, u4, u5, u6, u7, u8, u9] : Array Value)[j]? = some v := ⟨_, Array.getElem?_eq_getElem (by simpa using hj')⟩
  rw [Nat.zero_add]; obtain ⟨q0, q1, q2, q3, q4, q5, q6, q7, q8, q9⟩ := tcl K; refine ⟨?_, K.frozen j⟩
  have hm : j = 0 ∨ j = 1 ∨ j = 2 ∨ j = 3 ∨ j = 4 ∨ j = 5 ∨ j = 6 ∨ j = 7 ∨ j = 8 ∨ j = 9 := by omega
  rcases hm with e | e | e | e | e | e | e | e | e | e <;> subst e <;> simp [*]
 ·exact h
def sets6o (w : World) (b o : Nat) (v0 v1 v2 v3 v4 v5 : Value) : World := ((((((w.setCell ⟨b, o, none⟩ v0).setCell ⟨b, o + 1, none⟩ v1).setCell ⟨b, o + 2, none⟩ v2).setCell ⟨b, o + 3, none⟩ v3).setCell ⟨b, o + 4, none⟩ v4).setCell ⟨b, o + 5, none⟩ v5)
theorem wpList_store6 {P : Program} {ops : Array Oper} {rest : List Oper} {op : Oper} {a : Act} {w : World} {Q : Exit → Act → World → Prop} (hgd : op.guard = none) (ty : TypeId) (x y : Operand) (ho : op.op = .store ty x y)
  (b o : Nat) (v0 v1 v2 v3 v4 v5 : Value) (hx : a.eval x = .pointer (some ⟨b, o, none⟩)) (hy : a.eval y = .agg #[v0, v1, v2, v3, v4, v5]) {t : TypeId} {cs : Array Value} (K : Blk w b t cs) (hsz : Nat.ble (o + 6) cs.size = true)
  (hi : (P.info? ty).map (·.size) = some 6) (h1 : (v0.oneCell' && v1.oneCell' && v2.oneCell' && v3.oneCell' && v4.oneCell' && v5.oneCell') = true)
  (h : wpList P ops Q rest (a.put op.dst undef) (sets6o w b o v0 v1 v2 v3 v4 v5)) : wpList P ops Q (op :: rest) a w := by
 have h2 : (#[v0, v1, v2, v3, v4, v5] : Array Value).all (·.oneCell') = true := by
  simp only [Bool.and_eq_true] at h1; obtain ⟨⟨⟨⟨⟨a0, a1⟩, a2⟩, a3⟩, a4⟩, a5⟩ := h1
  simp [a0, a1, a2, a3, a4, a5]
 have hs := Nat.le_of_ble_eq_true hsz; refine wpList_store_mid hgd ty x y ho b o #[v0, v1, v2, v3, v4, v5] hx hy (fun j hj => ?_) hi h2 ?_
 ·have hj' : j < 6 := hj
  have hlt : o + j < cs.size := by omega
  refine ⟨?_, K.frozen _⟩; have := K.cell (o + j); rw [Array.getElem?_eq_getElem hlt] at this; rw [this]; rfl
 ·exact h
theorem sumT_bd2 {ts : List Tn} (hz : ∀ k, k < ts.length → 0 ≤ (ts.getD k tn0).2 ∧ (ts.getD k tn0).2 ≤ 1000000) : ∀ k, k ≤ ts.length → 0 ≤ sumT (ts.take k) ∧ sumT (ts.take k) ≤ 1000000 * (k : Int) := by
  intro k
  induction k with
  | zero => intro _; exact ⟨Int.le_refl _, by show (0 : Int) ≤ 1000000 * ((0 : Nat) : Int); omega⟩
  | succ k ih =>
    intro hk; have a := ih (by omega); have b := hz k (by omega); rw [sumT_succ (by omega)]
    omega
theorem ihours (a : Option Addr) (cap : Nat) (ts : List Tn) (w : World) (h : IsTn w a ts) (hn : ts.length ≤ 1048576) (hz : ∀ k, k < ts.length → 0 ≤ (ts.getD k tn0).2 ∧ (ts.getD k tn0).2 ≤ 1000000) :
  Calls Tryz.prog 103 #[.slice a ts.length cap] w fun e w' => e = .returned (.int .i64 (sumT ts)) ∧ Below w.heap.size w w' := by
 rcases h with rfl | ⟨g, o, rfl, hc⟩
 ·go_enter Tryz.func103, Tryz.ntmps103
  go_wp2
  go_rounds 1
  go_ret; exact ⟨rfl, by go_grown⟩
 ·have HC := Lib.hid hc
  have HZ := Lib.hid hz; have HB := Lib.hid (sumT_bd2 hz); clear hc hz; go_enter Tryz.func103, Tryz.ntmps103
  go_wp2
  go_loopw [3, 8] (fun s i wr => ∃ k : Nat, k ≤ ts.length ∧ i = .int .i64 k ∧ s = .int .i64 (sumT (ts.take k)) ∧ Below w.heap.size w wr) (fun _ i _ => ts.length - (intOf i).toNat)
  case atStart => exact ⟨0, Nat.zero_le _, rfl, rfl, by go_grown⟩
  case round =>
   obtain ⟨k, hk, rfl, rfl, hB⟩ := hrel; obtain ⟨b0, b1⟩ := HB.out k hk
   by_cases hlt : k < ts.length
   ·obtain ⟨c0, c1⟩ := tn_at HC.out hB hlt
    have ht := sumT_succ hlt; obtain ⟨z0, z1⟩ := HZ.out k hlt; generalize ts.getD k tn0 = hh at c0 c1 ht z0 z1; obtain ⟨x, y⟩ := hh; dsimp only at c0 c1 ht z0 z1; generalize sumT (ts.take k) = s at ht b0 b1; have HT := Lib.hid ht; have HBl := Lib.hid hB; clear ht hB
    go_wp2
    go_roundw
    case rel => exact ⟨k + 1, by omega, by go_num, by rw [HT.out], HBl.out.alloc HBl.out.size _⟩
    case measure => simp [intOf]; omega
   ·go_wp2
    go_ret; exact ⟨ret_int (by rw [List.take_of_length_le (by omega)]), hB⟩
theorem vt_hz {ts : List Tn} (h : ∀ j, j < ts.length → okT ts j = true) : ∀ k, k < ts.length → 0 ≤ (ts.getD k tn0).2 ∧ (ts.getD k tn0).2 ≤ 1000000 := fun k hk => by
 have := (okT_iff ts k).1 (h k hk); omega
theorem iVT (a : Option Addr) (cap : Nat) (ts : List Tn) (w : World) (h : IsTn w a ts) (hn : ts.length ≤ 1048576) :
  Calls Tryz.prog 67 #[.slice a ts.length cap] w fun e w' => e = .returned (.bool (vtB ts)) ∧ Below w.heap.size w w' := by
 by_cases h0 : ts.length < 1
 ·have e0 : decide ((ts.length : Int) < 1) = true := by simp; omega
  have HN := Lib.hid (vt_no0 h0); clear h0; go_enter Tryz.func67, Tryz.ntmps67; go_wp2_with fail; go_ret; exact ⟨ret_bool HN.out.symm, by go_grown⟩
 have e0 : decide ((ts.length : Int) < 1) = false := by simp; omega
 by_cases h24 : 24 < ts.length
 ·have e1 : decide (24 < (ts.length : Int)) = true := by simp; omega
  have HN := Lib.hid (vt_no1 h24); clear h24 h0; go_enter Tryz.func67, Tryz.ntmps67; go_wp2_with fail; go_ret; exact ⟨ret_bool HN.out.symm, by go_grown⟩
 have e1 : decide (24 < (ts.length : Int)) = false := by simp; omega
 have HS := Lib.hid h
 rcases h with rfl | ⟨g, o, rfl, hc⟩
 ·exact absurd (by simp) h0
 have HC := Lib.hid hc
 have l1 : 1 ≤ ts.length := by omega
 have l24 : ts.length ≤ 24 := by omega
 clear hc h0 h24; go_enter Tryz.func67, Tryz.ntmps67; go_wp2_with fail
 go_loopw [15] (fun i wr => ∃ k : Nat, k ≤ ts.length ∧ i = .int .i64 k ∧ Hid (∀ j, j < k → okT ts j = true) ∧ Below w.heap.size w wr) (fun i _ => ts.length - (intOf i).toNat)
 case atStart => exact ⟨0, Nat.zero_le _, rfl, fun j hj => by omega, by go_grown⟩
 case round =>
  obtain ⟨k, hk, rfl, HA, hB⟩ := hrel
  by_cases hlt : k < ts.length
  ·obtain ⟨c0, c1⟩ := tn_at HC.out hB hlt
   have hno : ¬ (1 ≤ (ts.getD k tn0).1 ∧ (ts.getD k tn0).1 ≤ 999 ∧ 1 ≤ (ts.getD k tn0).2 ∧ (ts.getD k tn0).2 ≤ 336) → vtB ts = false := fun e => vt_no2 hlt (okT_no e)
   have hyes : (1 ≤ (ts.getD k tn0).1 ∧ (ts.getD k tn0).1 ≤ 999 ∧ 1 ≤ (ts.getD k tn0).2 ∧ (ts.getD k tn0).2 ≤ 336) → ∀ j, j < k + 1 → okT ts j = true := fun e => rng_more HA.out ((okT_iff ts k).2 e)
   generalize ts.getD k tn0 = hh at c0 c1 hno hyes; obtain ⟨x, y⟩ := hh; dsimp only at c0 c1 hno hyes; have HN := Lib.hid hno; have HY := Lib.hid hyes; have HB := Lib.hid hB; clear hno hyes hB
   by_cases h2 : 1 ≤ x ∧ x ≤ 999
   ·by_cases h3 : y < 1
    ·have hv : Hid (vtB ts = false) := HN.out (by omega)
     have d3 : decide (y < 1) = true := decide_eq_true h3; go_wp2_with fail; refine (iowner_yes x _ h2.1 h2.2).mono ?_; rintro e w' ⟨rfl, rfl⟩; go_wp2_with fail; go_ret; exact ⟨ret_bool hv.out.symm, HB.out.alloc HB.out.size _⟩
    ·have d3 : decide (y < 1) = false := decide_eq_false h3
     by_cases h4 : 336 < y
     ·have hv : Hid (vtB ts = false) := HN.out (by omega)
      have d4 : decide (336 < y) = true := decide_eq_true h4; go_wp2_with fail; refine (iowner_yes x _ h2.1 h2.2).mono ?_; rintro e w' ⟨rfl, rfl⟩; go_wp2_with fail; go_ret; exact ⟨ret_bool hv.out.symm, HB.out.alloc HB.out.size _⟩
     ·have d4 : decide (336 < y) = false := decide_eq_false h4
      have HY2 := Lib.hid (HY.out ⟨h2.1, h2.2, by omega, by omega⟩); go_wp2_with fail; refine (iowner_yes x _ h2.1 h2.2).mono ?_; rintro e w' ⟨rfl, rfl⟩; go_wp2_with fail
      go_roundw
      case rel => exact ⟨k + 1, by omega, by go_num, HY2.out, HB.out.alloc HB.out.size _⟩
      case measure => simp [intOf]; omega
   ·have hv : Hid (vtB ts = false) := HN.out (fun c => h2 ⟨c.1, c.2.1⟩)
    go_wp2_with fail; refine (iowner_no x _ (by omega)).mono ?_; rintro e w' ⟨rfl, rfl⟩; go_wp2_with fail; go_ret; exact ⟨ret_bool hv.out.symm, HB.out.alloc HB.out.size _⟩
  ·obtain rfl : k = ts.length := by omega
   have HZ := Lib.hid (vt_hz HA.out); have HE := Lib.hid (vt_end l1 l24 HA.out); have HB := Lib.hid hB; clear HA hB; go_wp2_with fail; refine (ihours (some ⟨g, o, none⟩) cap ts _ (tn_below HS.out HB.out) hn HZ.out).mono ?_; rintro e w2 ⟨rfl, C⟩; go_wp2_with fail; go_ret; exact ⟨ret_bool HE.out.symm, bel_tr HB.out C⟩
theorem itime_yes (n : Int) (w : World) (h1 : 0 ≤ n) (h2 : n ≤ 5000) :
  Calls Tryz.prog 72 #[.int .i64 n] w fun e w' => e = .returned (.bool true) ∧ w = w' := by
 go_enter Tryz.func72, Tryz.ntmps72
 go_wp2
 go_ret; exact ⟨rfl, rfl⟩
theorem itime_no (n : Int) (w : World) (h : n < 0 ∨ 5000 < n) :
  Calls Tryz.prog 72 #[.int .i64 n] w fun e w' => e = .returned (.bool false) ∧ w = w' := by
 by_cases h1 : 0 ≤ n
 ·have hd : decide (n ≤ 5000) = false := by simp; omega
  clear h; go_enter Tryz.func72, Tryz.ntmps72
  go_wp2
  go_ret; exact ⟨rfl, rfl⟩
 ·have hd : decide (0 ≤ n) = false := by simpa using h1
  clear h; go_enter Tryz.func72, Tryz.ntmps72
  go_wp2
  go_ret; exact ⟨rfl, rfl⟩
theorem iturn (a : Option Addr) (n cap : Nat) (i : Int) (w : World) (hn : n ≤ 1048576) :
  Calls Tryz.prog 110 #[.slice a n cap, .int .i64 i] w fun e w' => e = .returned (.bool (decide (0 ≤ i) && decide (i < (n : Int)))) ∧ w = w' := by
 by_cases h1 : 0 ≤ i
 ·have hd : decide (0 ≤ i) = true := decide_eq_true h1
  clear h1; go_enter Tryz.func110, Tryz.ntmps110
  go_wp2
  go_ret; exact ⟨ret_bool (by rw [hd]; rfl), rfl⟩
 ·have hd : decide (0 ≤ i) = false := decide_eq_false h1
  clear h1; go_enter Tryz.func110, Tryz.ntmps110
  go_wp2
  go_ret; exact ⟨ret_bool (by rw [hd]; rfl), rfl⟩
theorem sumT_le {ts : List Tn} (hp : ∀ j, j < ts.length → 0 ≤ (ts.getD j tn0).2) : ∀ {k : Nat}, k < ts.length → sumT (ts.take (k + 1)) ≤ sumT ts := by
  intro k hk
  obtain ⟨m, hm⟩ : ∃ m, ts.length - (k + 1) = m := ⟨_, rfl⟩
  induction m generalizing k with
  | zero => rw [show k + 1 = ts.length from by omega, sumT_all]; exact Int.le_refl _
  | succ m ih =>
    have a := ih (k := k + 1) (by omega) (by omega); have b := hp (k + 1) (by omega); rw [sumT_succ (by omega)] at a
    omega
def upTo (ts : List Tn) (t : Int) : Nat → Value := fun j => if (j : Int) < t then .int .i64 (whoT ts (j : Int)) else .int .i64 0
theorem iowners (a : Option Addr) (cap : Nat) (ts : List Tn) (w : World) (h : IsTn w a ts) (hv : vtB ts = true) :
  Calls Tryz.prog 145 #[.slice a ts.length cap] w fun e w' => ∃ g : Nat, e = .returned (.slice (some ⟨g, 0, none⟩) (sumT ts).toNat (sumT ts).toNat) ∧ w.heap.size ≤ g ∧ Row w' g (ownT ts) ∧ Below w.heap.size w w' := by
 obtain ⟨l1, l24, ho, s1, s2⟩ := vt_is hv
 obtain ⟨N, hN⟩ : ∃ N : Nat, sumT ts = (N : Int) := ⟨_, (Int.toNat_of_nonneg (by omega)).symm⟩
 have hNt : (sumT ts).toNat = N := by omega
 have hol : (ownT ts).length = N := by rw [ownT_len, hNt]
 rw [hNt]; have HS := Lib.hid h
 rcases h with rfl | ⟨g, o, rfl, hc⟩
 ·simp at l1
 have HC := Lib.hid hc; have HO := Lib.hid ho; have HL := Lib.hid hol; have HT := Lib.hid hNt
 have HP : Hid (∀ j, j < ts.length → 0 ≤ (ts.getD j tn0).2) := fun j hj => (vt_hz ho j hj).1
 have IH := fun W hW => ihours (some ⟨g, o, none⟩) cap ts W hW (by omega) (vt_hz ho)
 rw [hN] at IH; have HN := Lib.hid hN
 have n1 : N ≤ 336 := by omega
 have n0 : 1 ≤ N := by omega
 have hmk := run_make_row' (P := Tryz.prog) 32 3 (.int .i64 0) 8 Tryz.underlying32 infoInt rfl .i64 .i64 N (by omega) (by omega); clear hc ho hol hNt hN s1 s2; go_enter Tryz.func145, Tryz.ntmps145; go_wp2_with fail; refine (IH _ HS.out).mono ?_; rintro e w1 ⟨rfl, C⟩; clear IH; have B0 := C; clear C; go_wp2_with fail; clear hmk; have hS : w.heap.size ≤ w1.heap.size := B0.size; have hrow0 : (w1.alloc (.cells (madeCells #[.int .i64 0] N) 3)).rowIs w1.heap.size 3 N (upTo ts 0) := (World.rowIs_made w1 (.int .i64 0) N _).congr (fun i hi => by unfold upTo; rw [if_neg (by omega)]); have hB0 := B0.alloc B0.size (.cells (madeCells #[.int .i64 0] N) 3); clear B0
 go_loopw [4, 13] (fun t i wr => ∃ k p : Nat, k ≤ ts.length ∧ i = .int .i64 k ∧ t = .int .i64 p ∧ Hid (sumT (ts.take k) = (p : Int)) ∧ wr.rowIs w1.heap.size 3 N (upTo ts p) ∧ Below w.heap.size w wr) (fun _ i _ => ts.length - (intOf i).toNat)
 case atStart => exact ⟨0, 0, Nat.zero_le _, rfl, rfl, rfl, hrow0, hB0⟩
 case round =>
  obtain ⟨k, p, hk, rfl, rfl, hp, hrow, hB⟩ := hrel; clear hrow0 hB0
  by_cases hlt : k < ts.length
  ·obtain ⟨c0, c1⟩ := tn_at HC.out hB hlt
   have ok := (okT_iff ts k).1 (HO.out k hlt); have hs := sumT_succ hlt
   have hidx : Hid (∀ q : Nat, p ≤ q → (q : Int) < p + (ts.getD k tn0).2 → whoT ts (q : Int) = (ts.getD k tn0).1) := fun q h1 h2 => by
    have e := idx_at k ts q hlt HP.out (by rw [hp.out]; omega) (by rw [hs, hp.out]; exact h2); unfold whoT; rw [e]
   have hle : (p : Int) + (ts.getD k tn0).2 ≤ N := by
    rw [← hp.out, ← hs, ← HN.out]; exact sumT_le HP.out hlt
   rw [hp.out] at hs; generalize ts.getD k tn0 = hh at c0 c1 hs hidx hle ok; obtain ⟨x, y⟩ := hh; dsimp only at c0 c1 hs hidx hle ok; have y0 : 1 ≤ y := ok.2.2.1; have y1 : y ≤ 336 := ok.2.2.2; have HS2 := Lib.hid hs; have HB := Lib.hid hB; have hlw := World.rowIs.lt hrow; have HR := Lib.hid hrow; clear hs hB hrow ok; go_wp2_with fail; have K0 : Blk (wr.alloc (.cells #[.int .i64 x, .int .i64 y] 108)) wr.heap.size 108 #[.int .i64 x, .int .i64 y] := Blk.new _ _ _
   have hneS : w1.heap.size ≠ wr.heap.size := by omega
   have hrow1 := World.rowIs.of_block HR.out (Below.heap_alloc wr (.cells #[.int .i64 x, .int .i64 y] 108) w1.heap.size hlw); have hB1 := HB.out.alloc HB.out.size (.cells #[.int .i64 x, .int .i64 y] 108); have hB1' : Hid (Below w.heap.size w (wr.alloc (.cells #[.int .i64 x, .int .i64 y] 108))) := hB1; clear hB1 c0 c1
   go_loopw [4, 7] (fun t l wi => ∃ q : Nat, p ≤ q ∧ (q : Int) ≤ p + y ∧ t = .int .i64 q ∧ l = .int .i64 (p + y - q) ∧ wi.rowIs w1.heap.size 3 N (upTo ts q) ∧ Blk wi wr.heap.size 108 #[.int .i64 x, .int .i64 y] ∧ Below w.heap.size w wi) (fun _ l _ => (intOf l).toNat)
   case atStart => exact ⟨p, Nat.le_refl _, by omega, rfl, by rw [show (p : Int) + y - p = y from by omega], hrow1, K0, hB1'.out⟩
   case round =>
    obtain ⟨q, hq0, hq1, rfl, rfl, hrow, hK, hB⟩ := hrel; clear hrow1 K0
    by_cases hlq : (q : Int) < p + y
    ·have hqN : q < N := by omega
     have hd : wr.cell? ⟨w1.heap.size, q, none⟩ = some (.int .i64 0) := by rw [hrow.cell hqN]; unfold upTo; rw [if_neg (by omega)]
     have hf := hrow.frozen q; have k0 := hK.cell 0
     dsimp at k0
     have hcon : (wr.setCell ⟨w1.heap.size, q, none⟩ (.int .i64 x)).rowIs w1.heap.size 3 N (upTo ts ((q + 1 : Nat) : Int)) := (hrow.set q (.int .i64 x)).congr (fun j hj => by
      show (if j = q then Value.int .i64 x else upTo ts q j) = upTo ts ((q + 1 : Nat) : Int) j
      unfold upTo
      by_cases e : j = q
      ·subst e; rw [if_pos rfl, if_pos (by omega), hidx.out j hq0 hlq]
      ·rw [if_neg e]
       by_cases e2 : (j : Int) < q
       ·rw [if_pos e2, if_pos (by omega)]
       ·rw [if_neg e2, if_neg (by omega)])
     have hK2 : Hid (Blk (wr.setCell ⟨w1.heap.size, q, none⟩ (.int .i64 x)) _ 108 #[.int .i64 x, .int .i64 y]) := hK.far (fun e => hneS e.symm) _; have HR := Lib.hid hcon; have HB2 : Hid (Below w.heap.size w (wr.setCell ⟨w1.heap.size, q, none⟩ (.int .i64 x))) := hB.setCell hS _
     have i0 : (0 : Int) ≤ (q : Int) := by omega
     have i1 : (q : Int) < (N : Int) := by omega
     have i2 : 0 < (p : Int) + y - q := by omega
     clear hcon hrow hB hK
     go_wp2
     go_roundw
     case rel => exact ⟨q + 1, by omega, by omega, by go_num, by rw [show (p : Int) + y - ((q + 1 : Nat) : Int) = p + y - q - 1 from by omega], HR.out, hK2.out, HB2.out⟩
     case measure => simp [intOf]; omega
    ·have i2 : ¬ 0 < (p : Int) + y - q := by omega
     have hqe : (q : Int) = p + y := by omega
     have HR := Lib.hid hrow; have HB := Lib.hid hB; have HQ := Lib.hid hqe; clear hrow hB hK hqe
     go_wp2
     go_roundw
     case rel => exact ⟨k + 1, q, by omega, by go_num, rfl, HS2.out.trans HQ.out.symm, HR.out, HB.out⟩
     case measure => simp [intOf]; omega
  ·obtain rfl : k = ts.length := by omega
   have hpN : p = N := by
    have := hp.out; rw [sumT_all, HN.out] at this
    omega
   have HR := Lib.hid hrow; have HB := Lib.hid hB; have HPN := Lib.hid hpN; clear hrow hB hpN
   go_wp2
   go_ret; refine ⟨w1.heap.size, rfl, hS, ?_, HB.out⟩; unfold Row; rw [HL.out]; refine HR.out.congr (fun j hj => ?_); unfold upTo; rw [if_pos (by rw [HPN.out]; omega), ownT_get _ (by rw [HT.out]; exact hj)]
theorem inB3_yes {n l h : Int} (a : inB3 n l h = true) : l ≤ n ∧ n ≤ h := by unfold inB3 at a; simpa using a
theorem inB3_no {n l h : Int} (a : inB3 n l h = false) : n < l ∨ h < n := by
 unfold inB3 at a
 by_cases b : l ≤ n
 ·by_cases c : n ≤ h
  ·rw [decide_eq_true b, decide_eq_true c] at a; cases a
  ·exact .inr (by omega)
 ·exact .inl (by omega)
theorem srange3 (n l h : Int) (w : World) :
  Calls Tryz.prog 52 #[.int .i64 n, .int .i64 l, .int .i64 h] w fun e w' => e = .returned (.bool (inB3 n l h)) ∧ w = w' := by
 cases a : inB3 n l h with
 | true => exact inRange_yes n l h w (inB3_yes a).1 (inB3_yes a).2
 | false => exact inRange_no n l h w (inB3_no a)
theorem iwithin3 (n m : Int) (w : World) :
  Calls Tryz.prog 71 #[.int .i64 n, .int .i64 m] w fun e w' => e = .returned (.bool (inB3 n 0 m)) ∧ w = w' := by
 cases a : inB3 n 0 m with
 | true => exact iwithin_yes n m w (inB3_yes a).1 (inB3_yes a).2
 | false => exact iwithin_no n m w (inB3_no a)
theorem itime3 (n : Int) (w : World) :
  Calls Tryz.prog 72 #[.int .i64 n] w fun e w' => e = .returned (.bool (inB3 n 0 5000)) ∧ w = w' := by
 cases a : inB3 n 0 5000 with
 | true => exact itime_yes n w (inB3_yes a).1 (inB3_yes a).2
 | false => exact itime_no n w (inB3_no a)
theorem iowner3 (n : Int) (w : World) :
  Calls Tryz.prog 102 #[.int .i64 n] w fun e w' => e = .returned (.bool (inB3 n 1 999)) ∧ w = w' := by
 cases a : inB3 n 1 999 with
 | true => exact iowner_yes n w (inB3_yes a).1 (inB3_yes a).2
 | false => exact iowner_no n w (inB3_no a)
theorem itown_last {s hd ls cm : Int} (R : Bool) (h : R = decide (s + hd + ls = cm)) : (Ending.returned (.bool (s + hd + ls == cm))) = .returned (.bool R) := by
 rw [h]; congr 2
def addA : List (Int × Int) → Int → Int → List (Int × Int)
 | [], o, u => if u = 0 then [] else [(o, u)]
 | a :: t, o, u => if u = 0 then a :: t else if o < a.1 then (o, u) :: a :: t else if o = a.1 then (a.1, a.2 + u) :: t else a :: addA t o u
def untV : List (Int × Int) → Int → Int
 | [], _ => 0
 | a :: t, o => if a.1 = o then a.2 else untV t o
def AscA (l : List (Int × Int)) : Prop := l.Pairwise (fun a b => a.1 < b.1)
theorem add_zero (l : List (Int × Int)) (o : Int) : addA l o 0 = l := by
 cases l with
 | nil => rfl
 | cons a t => unfold addA; rw [if_pos rfl]
theorem add_len (l : List (Int × Int)) (o u : Int) : (addA l o u).length ≤ l.length + 1 := by
  induction l with
  | nil =>
    unfold addA
    split <;> simp
  | cons a t ih =>
    unfold addA
    by_cases c : u = 0
    · rw [if_pos c]; simp
    · rw [if_neg c]
      by_cases c1 : o < a.1
      · rw [if_pos c1]; simp
      · rw [if_neg c1]
        by_cases c2 : o = a.1
        · rw [if_pos c2]; simp
        · rw [if_neg c2]; simp; omega
def atA : List (Int × Int) → Int → Nat
 | [], _ => 0
 | a :: t, o => if a.1 < o then atA t o + 1 else 0
theorem at_le (l : List (Int × Int)) (o : Int) : atA l o ≤ l.length := by
 induction l with
 | nil => exact Nat.le_refl _
 | cons a t ih => unfold atA; split <;> simp <;> omega
theorem at_lt {l : List (Int × Int)} {o : Int} : ∀ k, k < atA l o → (l.getD k (0, 0)).1 < o := by
  induction l with
  | nil => intro k h; exact absurd h (Nat.not_lt_zero _)
  | cons a t ih =>
    intro k h; unfold atA at h
    by_cases c : a.1 < o
    · rw [if_pos c] at h
      cases k with
      | zero => exact c
      | succ k => exact ih k (by omega)
    · rw [if_neg c] at h; exact absurd h (Nat.not_lt_zero _)
theorem at_ge {l : List (Int × Int)} {o : Int} (h : atA l o < l.length) : ¬ (l.getD (atA l o) (0, 0)).1 < o := by
  induction l with
  | nil => exact absurd h (Nat.not_lt_zero _)
  | cons a t ih =>
    unfold atA at h ⊢
    by_cases c : a.1 < o
    · rw [if_pos c] at h ⊢; exact ih (by simpa using h)
    · rw [if_neg c]; exact c
theorem at_is {l : List (Int × Int)} {o : Int} {k : Nat} (hk : k ≤ l.length) (h1 : ∀ j, j < k → (l.getD j (0, 0)).1 < o) (h2 : k < l.length → ¬ (l.getD k (0, 0)).1 < o) : atA l o = k := by
 have := at_le l o
 rcases Nat.lt_trichotomy (atA l o) k with c | c | c
 ·exact absurd (h1 _ c) (at_ge (by omega))
 ·exact c
 ·exact absurd (at_lt k c) (h2 (by omega))
def addM (l : List (Int × Int)) (o u : Int) : List (Int × Int) :=
 if atA l o < l.length ∧ (l.getD (atA l o) (0, 0)).1 = o then l.take (atA l o) ++ (if 0 < u + (l.getD (atA l o) (0, 0)).2 then [(o, u + (l.getD (atA l o) (0, 0)).2)] else []) ++ l.drop (atA l o + 1)
 else l.take (atA l o) ++ (if 0 < u then [(o, u)] else []) ++ l.drop (atA l o)
theorem add_mid {l : List (Int × Int)} {o u : Int} (hp : ∀ a ∈ l, 0 < a.2) (hu : 0 ≤ u) : addM l o u = addA l o u := by
  induction l with
  | nil =>
    unfold addM addA atA
    by_cases c : u = 0
    · subst c; simp
    · have : 0 < u := by omega
      simp [c, this]
  | cons a t ih =>
    have hpa := hp a (by simp); have ih' := ih (fun b hb => hp b (by simp [hb])); unfold addA
    by_cases c1 : a.1 < o
    · have e : atA (a :: t) o = atA t o + 1 := by show (if a.1 < o then _ else _) = _; rw [if_pos c1]
      have e2 : addM (a :: t) o u = a :: addM t o u := by
        unfold addM; rw [e]
        by_cases d : atA t o < t.length ∧ (t.getD (atA t o) (0, 0)).1 = o
        · rw [if_pos d, if_pos (by simpa using d)]; simp
        · rw [if_neg d, if_neg (by simpa using d)]; simp
      rw [e2, ih', if_neg (by omega : ¬ o < a.1), if_neg (by omega : ¬ o = a.1)]
      by_cases c : u = 0
      · rw [if_pos c, c, add_zero]
      · rw [if_neg c]
    · have e : atA (a :: t) o = 0 := by show (if a.1 < o then _ else _) = _; rw [if_neg c1]
      unfold addM; rw [e]
      by_cases c2 : o = a.1
      · rw [if_pos ⟨by simp, by simp [c2]⟩]
        have hpos : 0 < u + a.2 := by omega
        simp only [List.getD_cons_zero, List.take_zero, List.nil_append, List.drop_succ_cons, List.drop_zero, Nat.zero_add]; rw [if_pos hpos]
        by_cases c : u = 0
        · rw [if_pos c]; subst c c2; simp
        · rw [if_neg c, if_neg (by omega), if_pos c2, c2, Int.add_comm u a.2]; rfl
      · rw [if_neg (fun h => c2 (by simpa using h.2.symm))]
        simp only [List.take_zero, List.nil_append, List.drop_zero]
        by_cases c : u = 0
        · rw [if_pos c, if_neg (by omega)]; rfl
        · rw [if_neg c, if_pos (by omega : 0 < u), if_pos (by omega : o < a.1)]; rfl
end Go.Proofs.YthagafkjlecagabGreat
