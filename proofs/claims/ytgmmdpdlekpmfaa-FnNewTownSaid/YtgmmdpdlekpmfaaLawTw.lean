/- The laws' own functions on towns: sizes, copies, comparisons, marks. Condition: at most 1048576 of each. -/
import Derived.Test.YtgmmdpdlekpmfaaTwO
import Derived.Test.YtgmmdpdlekpmfaaMkK
import Derived.Test.YtgmmdpdlekpmfaaBasK
namespace Go.Proofs.Ytgmmdpdlekpmfaa
open Go.RowKit
set_option linter.unusedSimpArgs false
set_option linter.unusedVariables false
theorem lzH (a : Option Addr) (n cap : Nat) (left : Int) (w : World) (h0 : 0 ≤ left) (h1 : left ≤ 1048576) (hn : n ≤ 9223372036854775807) :
    Calls Try.prog 28 #[.slice a n cap, .int .i64 left] w fun e w' => e = .returned (.int .i64 (if left < (n : Int) then -1 else left - (n : Int))) ∧ w = w' := by
  have hw : IntKind.i64.wrap (left - (n : Int)) = left - (n : Int) := by rw [IntKind.wrap_i64]; omega
  by_cases c : left < (n : Int)
  · rw [if_pos c]
    have e1 : decide (left - (n : Int) < 0) = true := decide_eq_true (by omega)
    clear c
    go_enter Try.func28, Try.ntmps28
    go_wp2
    go_ret
    exact ⟨rfl, rfl⟩
  · rw [if_neg c]
    have e1 : decide (left - (n : Int) < 0) = false := decide_eq_false (by omega)
    clear c
    go_enter Try.func28, Try.ntmps28
    go_wp2
    go_ret
    exact ⟨rfl, rfl⟩
theorem lzTn (a : Option Addr) (n cap : Nat) (left : Int) (w : World) (h0 : 0 ≤ left) (h1 : left ≤ 1048576) (hn : n ≤ 9223372036854775807) :
    Calls Try.prog 42 #[.slice a n cap, .int .i64 left] w fun e w' => e = .returned (.int .i64 (if left < (n : Int) then -1 else left - (n : Int))) ∧ w = w' := by
  have hw : IntKind.i64.wrap (left - (n : Int)) = left - (n : Int) := by rw [IntKind.wrap_i64]; omega
  by_cases c : left < (n : Int)
  · rw [if_pos c]
    have e1 : decide (left - (n : Int) < 0) = true := decide_eq_true (by omega)
    clear c
    go_enter Try.func42, Try.ntmps42
    go_wp2
    go_ret
    exact ⟨rfl, rfl⟩
  · rw [if_neg c]
    have e1 : decide (left - (n : Int) < 0) = false := decide_eq_false (by omega)
    clear c
    go_enter Try.func42, Try.ntmps42
    go_wp2
    go_ret
    exact ⟨rfl, rfl⟩
theorem lzNd (a : Option Addr) (n cap : Nat) (left : Int) (w : World) (h0 : 0 ≤ left) (h1 : left ≤ 1048576) (hn : n ≤ 9223372036854775807) :
    Calls Try.prog 43 #[.slice a n cap, .int .i64 left] w fun e w' => e = .returned (.int .i64 (if left < (n : Int) then -1 else left - (n : Int))) ∧ w = w' := by
  have hw : IntKind.i64.wrap (left - (n : Int)) = left - (n : Int) := by rw [IntKind.wrap_i64]; omega
  by_cases c : left < (n : Int)
  · rw [if_pos c]
    have e1 : decide (left - (n : Int) < 0) = true := decide_eq_true (by omega)
    clear c
    go_enter Try.func43, Try.ntmps43
    go_wp2
    go_ret
    exact ⟨rfl, rfl⟩
  · rw [if_neg c]
    have e1 : decide (left - (n : Int) < 0) = false := decide_eq_false (by omega)
    clear c
    go_enter Try.func43, Try.ntmps43
    go_wp2
    go_ret
    exact ⟨rfl, rfl⟩
theorem lzAc (a : Option Addr) (n cap : Nat) (left : Int) (w : World) (h0 : 0 ≤ left) (h1 : left ≤ 1048576) (hn : n ≤ 9223372036854775807) :
    Calls Try.prog 44 #[.slice a n cap, .int .i64 left] w fun e w' => e = .returned (.int .i64 (if left < (n : Int) then -1 else left - (n : Int))) ∧ w = w' := by
  have hw : IntKind.i64.wrap (left - (n : Int)) = left - (n : Int) := by rw [IntKind.wrap_i64]; omega
  by_cases c : left < (n : Int)
  · rw [if_pos c]
    have e1 : decide (left - (n : Int) < 0) = true := decide_eq_true (by omega)
    clear c
    go_enter Try.func44, Try.ntmps44
    go_wp2
    go_ret
    exact ⟨rfl, rfl⟩
  · rw [if_neg c]
    have e1 : decide (left - (n : Int) < 0) = false := decide_eq_false (by omega)
    clear c
    go_enter Try.func44, Try.ntmps44
    go_wp2
    go_ret
    exact ⟨rfl, rfl⟩
/-- how much a town takes -/
def szT (t : Tw) (left : Int) : Int := if left < (t.hs.length : Int) + t.ts.length + t.ns.length + t.ac.length then -1 else left - ((t.hs.length : Int) + t.ts.length + t.ns.length + t.ac.length)
set_option maxRecDepth 100000 in
set_option maxHeartbeats 4000000 in
/-- laws.szTown -/
theorem lszTw (p : TA) (t : Tw) (left : Int) (w : World) (h0 : 0 ≤ left) (h1 : left ≤ 1048576) (n1 : t.hs.length ≤ 9223372036854775807) (n2 : t.ts.length ≤ 9223372036854775807) (n3 : t.ns.length ≤ 9223372036854775807) (n4 : t.ac.length ≤ 9223372036854775807) :
    Calls Try.prog 11 #[twV p t, .int .i64 left] w fun e w' => e = .returned (.int .i64 (szT t left)) ∧ Below w.heap.size w w' := by
  obtain ⟨R, hR⟩ : ∃ R, szT t left = R := ⟨_, rfl⟩
  rw [hR]
  unfold szT at hR
  obtain ⟨a1, c1, a2, c2, a3, c3, a4, c4⟩ := p
  obtain ⟨hs, ts, ns, r, hd, ac, rt, tm, ls, cm⟩ := t
  dsimp only at n1 n2 n3 n4 hR
  obtain ⟨l1, e1⟩ : ∃ n, hs.length = n := ⟨_, rfl⟩
  obtain ⟨l2, e2⟩ : ∃ n, ts.length = n := ⟨_, rfl⟩
  obtain ⟨l3, e3⟩ : ∃ n, ns.length = n := ⟨_, rfl⟩
  obtain ⟨l4, e4⟩ : ∃ n, ac.length = n := ⟨_, rfl⟩
  show Calls _ _ #[.agg #[.slice a1 hs.length c1, .slice a2 ts.length c2, .slice a3 ns.length c3, .int .i64 r, .int .i64 hd, .slice a4 ac.length c4, .int .i64 rt, .int .i64 tm, .int .i64 ls, .int .i64 cm], .int .i64 left] _ _
  rw [e1, e2, e3, e4] at hR ⊢
  rw [e1] at n1
  rw [e2] at n2
  rw [e3] at n3
  rw [e4] at n4
  clear e1 e2 e3 e4
  have HR := Lib.hid hR
  clear hR
  go_enter Try.func11, Try.ntmps11
  have K := Blk.new w 29 #[.slice a1 l1 c1, .slice a2 l2 c2, .slice a3 l3 c3, .int .i64 r, .int .i64 hd, .slice a4 l4 c4, .int .i64 rt, .int .i64 tm, .int .i64 ls, .int .i64 cm]
  have B := (Below.refl w.heap.size w).alloc (Nat.le_refl _) (.cells #[.slice a1 l1 c1, .slice a2 l2 c2, .slice a3 l3 c3, .int .i64 r, .int .i64 hd, .slice a4 l4 c4, .int .i64 rt, .int .i64 tm, .int .i64 ls, .int .i64 cm] 29)
  obtain ⟨q0, q1, q2, q3, q4, q5, q6, q7, q8, q9⟩ := town_cells K
  go_wp2_with fail
  refine (lzH a1 l1 c1 (left) _ (by omega) (by omega) n1).mono ?_
  rintro e u ⟨rfl, rfl⟩
  by_cases x1 : left < (l1 : Int)
  · rw [if_pos x1]
    have HV : Hid (R = -1) := by show _ = _; rw [← HR.out, if_pos (by omega)]
    clear x1
    go_wp2_with fail
    go_ret
    exact ⟨ret_int HV.out.symm, B⟩
  rw [if_neg x1]
  have y1 : 0 ≤ left - (l1 : Int) := by omega
  have d1 : decide (left - (l1 : Int) < 0) = false := decide_eq_false (by omega)
  go_wp2_with fail
  refine (lzTn a2 l2 c2 (left - (l1 : Int)) _ (by omega) (by omega) n2).mono ?_
  rintro e u ⟨rfl, rfl⟩
  by_cases x2 : left - (l1 : Int) < (l2 : Int)
  · rw [if_pos x2]
    have HV : Hid (R = -1) := by show _ = _; rw [← HR.out, if_pos (by omega)]
    clear x2
    go_wp2_with fail
    go_ret
    exact ⟨ret_int HV.out.symm, B⟩
  rw [if_neg x2]
  have y2 : 0 ≤ left - (l1 : Int) - (l2 : Int) := by omega
  have d2 : decide (left - (l1 : Int) - (l2 : Int) < 0) = false := decide_eq_false (by omega)
  go_wp2_with fail
  refine (lzNd a3 l3 c3 (left - (l1 : Int) - (l2 : Int)) _ (by omega) (by omega) n3).mono ?_
  rintro e u ⟨rfl, rfl⟩
  by_cases x3 : left - (l1 : Int) - (l2 : Int) < (l3 : Int)
  · rw [if_pos x3]
    have HV : Hid (R = -1) := by show _ = _; rw [← HR.out, if_pos (by omega)]
    clear x3
    go_wp2_with fail
    go_ret
    exact ⟨ret_int HV.out.symm, B⟩
  rw [if_neg x3]
  have y3 : 0 ≤ left - (l1 : Int) - (l2 : Int) - (l3 : Int) := by omega
  have d3 : decide (left - (l1 : Int) - (l2 : Int) - (l3 : Int) < 0) = false := decide_eq_false (by omega)
  go_wp2_with fail
  refine (lzAc a4 l4 c4 (left - (l1 : Int) - (l2 : Int) - (l3 : Int)) _ (by omega) (by omega) n4).mono ?_
  rintro e u ⟨rfl, rfl⟩
  by_cases x4 : left - (l1 : Int) - (l2 : Int) - (l3 : Int) < (l4 : Int)
  · rw [if_pos x4]
    have HV : Hid (R = -1) := by show _ = _; rw [← HR.out, if_pos (by omega)]
    clear x4
    go_wp2_with fail
    go_ret
    exact ⟨ret_int HV.out.symm, B⟩
  rw [if_neg x4]
  have y4 : 0 ≤ left - (l1 : Int) - (l2 : Int) - (l3 : Int) - (l4 : Int) := by omega
  have d4 : decide (left - (l1 : Int) - (l2 : Int) - (l3 : Int) - (l4 : Int) < 0) = false := decide_eq_false (by omega)
  have HV : Hid (R = left - (l1 : Int) - (l2 : Int) - (l3 : Int) - (l4 : Int)) := by show _ = _; rw [← HR.out, if_neg (by omega)]; omega
  go_wp2_with fail
  go_ret
  exact ⟨ret_int HV.out.symm, B⟩
set_option maxRecDepth 100000 in
set_option maxHeartbeats 4000000 in
/-- laws.toTown -/
theorem ltoTw (p : TA) (t : Tw) (w : World) (h : IsTw w p t) :
    Calls Try.prog 13 #[twV p t] w (OutTw w t) := by
  obtain ⟨a1, c1, a2, c2, a3, c3, a4, c4⟩ := p
  obtain ⟨hs, ts, ns, r, hd, ac, rt, tm, ls, cm⟩ := t
  obtain ⟨h1, h2, h3, h4, n1, n2, n3, n4, k1, k2, k3, k4⟩ := h
  dsimp only at h1 h2 h3 h4 n1 n2 n3 n4
  have C1 := Lib.hid (fun W (hW : Below w.heap.size w W) => ltoH a1 c1 hs W (hs_below h1 hW) n1)
  have C2 := Lib.hid (fun W (hW : Below w.heap.size w W) => ltoTn a2 c2 ts W (tn_below h2 hW) n2)
  have C3 := Lib.hid (fun W (hW : Below w.heap.size w W) => ltoNd a3 c3 ns W (nd_below h3 hW) n3)
  have C4 := Lib.hid (fun W (hW : Below w.heap.size w W) => ltoAc a4 c4 ac W (ac_below h4 hW) n4)
  have N1 := Lib.hid n1
  have N2 := Lib.hid n2
  have N3 := Lib.hid n3
  have N4 := Lib.hid n4
  clear h1 h2 h3 h4 k1 k2 k3 k4 n1 n2 n3 n4
  show Calls _ _ #[.agg #[.slice a1 hs.length c1, .slice a2 ts.length c2, .slice a3 ns.length c3, .int .i64 r, .int .i64 hd, .slice a4 ac.length c4, .int .i64 rt, .int .i64 tm, .int .i64 ls, .int .i64 cm]] _ _
  go_enter Try.func13, Try.ntmps13
  go_wp2_with fail
  have KA := ((Blk.new w 29 #[.slice a1 hs.length c1, .slice a2 ts.length c2, .slice a3 ns.length c3, .int .i64 r, .int .i64 hd, .slice a4 ac.length c4, .int .i64 rt, .int .i64 tm, .int .i64 ls, .int .i64 cm]).alloc (.cells #[.slice none 0 0, .slice none 0 0, .slice none 0 0, .int .i64 0, .int .i64 0, .slice none 0 0, .int .i64 0, .int .i64 0, .int .i64 0, .int .i64 0] 38)).alloc (.cells #[.slice none 0 0, .slice none 0 0, .slice none 0 0, .int .i64 0, .int .i64 0, .slice none 0 0, .int .i64 0, .int .i64 0, .int .i64 0, .int .i64 0] 38)
  have KR : Blk (((w.alloc (.cells #[.slice a1 hs.length c1, .slice a2 ts.length c2, .slice a3 ns.length c3, .int .i64 r, .int .i64 hd, .slice a4 ac.length c4, .int .i64 rt, .int .i64 tm, .int .i64 ls, .int .i64 cm] 29)).alloc (.cells #[.slice none 0 0, .slice none 0 0, .slice none 0 0, .int .i64 0, .int .i64 0, .slice none 0 0, .int .i64 0, .int .i64 0, .int .i64 0, .int .i64 0] 38)).alloc (.cells #[.slice none 0 0, .slice none 0 0, .slice none 0 0, .int .i64 0, .int .i64 0, .slice none 0 0, .int .i64 0, .int .i64 0, .int .i64 0, .int .i64 0] 38)) (w.heap.size + 1) 38 #[.slice none 0 0, .slice none 0 0, .slice none 0 0, .int .i64 0, .int .i64 0, .slice none 0 0, .int .i64 0, .int .i64 0, .int .i64 0, .int .i64 0] := by
    have := (Blk.new (w.alloc (.cells #[.slice a1 hs.length c1, .slice a2 ts.length c2, .slice a3 ns.length c3, .int .i64 r, .int .i64 hd, .slice a4 ac.length c4, .int .i64 rt, .int .i64 tm, .int .i64 ls, .int .i64 cm] 29)) 38 #[.slice none 0 0, .slice none 0 0, .slice none 0 0, .int .i64 0, .int .i64 0, .slice none 0 0, .int .i64 0, .int .i64 0, .int .i64 0, .int .i64 0]).alloc (.cells #[.slice none 0 0, .slice none 0 0, .slice none 0 0, .int .i64 0, .int .i64 0, .slice none 0 0, .int .i64 0, .int .i64 0, .int .i64 0, .int .i64 0] 38)
    rw [World.size_alloc] at this; exact this
  have KO : Blk (((w.alloc (.cells #[.slice a1 hs.length c1, .slice a2 ts.length c2, .slice a3 ns.length c3, .int .i64 r, .int .i64 hd, .slice a4 ac.length c4, .int .i64 rt, .int .i64 tm, .int .i64 ls, .int .i64 cm] 29)).alloc (.cells #[.slice none 0 0, .slice none 0 0, .slice none 0 0, .int .i64 0, .int .i64 0, .slice none 0 0, .int .i64 0, .int .i64 0, .int .i64 0, .int .i64 0] 38)).alloc (.cells #[.slice none 0 0, .slice none 0 0, .slice none 0 0, .int .i64 0, .int .i64 0, .slice none 0 0, .int .i64 0, .int .i64 0, .int .i64 0, .int .i64 0] 38)) (w.heap.size + 1 + 1) 38 #[.slice none 0 0, .slice none 0 0, .slice none 0 0, .int .i64 0, .int .i64 0, .slice none 0 0, .int .i64 0, .int .i64 0, .int .i64 0, .int .i64 0] := by
    have := Blk.new ((w.alloc (.cells #[.slice a1 hs.length c1, .slice a2 ts.length c2, .slice a3 ns.length c3, .int .i64 r, .int .i64 hd, .slice a4 ac.length c4, .int .i64 rt, .int .i64 tm, .int .i64 ls, .int .i64 cm] 29)).alloc (.cells #[.slice none 0 0, .slice none 0 0, .slice none 0 0, .int .i64 0, .int .i64 0, .slice none 0 0, .int .i64 0, .int .i64 0, .int .i64 0, .int .i64 0] 38)) 38 #[.slice none 0 0, .slice none 0 0, .slice none 0 0, .int .i64 0, .int .i64 0, .slice none 0 0, .int .i64 0, .int .i64 0, .int .i64 0, .int .i64 0]
    rw [World.size_alloc, World.size_alloc] at this; exact this
  have B : Below w.heap.size w (((w.alloc (.cells #[.slice a1 hs.length c1, .slice a2 ts.length c2, .slice a3 ns.length c3, .int .i64 r, .int .i64 hd, .slice a4 ac.length c4, .int .i64 rt, .int .i64 tm, .int .i64 ls, .int .i64 cm] 29)).alloc (.cells #[.slice none 0 0, .slice none 0 0, .slice none 0 0, .int .i64 0, .int .i64 0, .slice none 0 0, .int .i64 0, .int .i64 0, .int .i64 0, .int .i64 0] 38)).alloc (.cells #[.slice none 0 0, .slice none 0 0, .slice none 0 0, .int .i64 0, .int .i64 0, .slice none 0 0, .int .i64 0, .int .i64 0, .int .i64 0, .int .i64 0] 38)) := by go_grown
  generalize ((w.alloc (.cells #[.slice a1 hs.length c1, .slice a2 ts.length c2, .slice a3 ns.length c3, .int .i64 r, .int .i64 hd, .slice a4 ac.length c4, .int .i64 rt, .int .i64 tm, .int .i64 ls, .int .i64 cm] 29)).alloc (.cells #[.slice none 0 0, .slice none 0 0, .slice none 0 0, .int .i64 0, .int .i64 0, .slice none 0 0, .int .i64 0, .int .i64 0, .int .i64 0, .int .i64 0] 38)).alloc (.cells #[.slice none 0 0, .slice none 0 0, .slice none 0 0, .int .i64 0, .int .i64 0, .slice none 0 0, .int .i64 0, .int .i64 0, .int .i64 0, .int .i64 0] 38) = u0 at KA KR KO B ⊢
  refine (C1.out _ B).mono ?_
  rintro e u1 ⟨g1, rfl, lg1, F1, C⟩
  have gl1 : w.heap.size + 1 + 1 + 1 ≤ g1 := (by have := KO.lt; omega)
  replace KA := KA.next C
  replace KR := KR.next C
  replace KO := KO.next C
  replace B := bel_tr B C
  clear C
  have fz0 := KO.frozen 0
  have oc0 := KO.cell 0
  simp only [List.getElem?_toArray, List.getElem?_cons_zero, List.getElem?_cons_succ] at oc0
  replace KA := KA.far (p := ⟨w.heap.size + 1 + 1, 0, none⟩) (by show w.heap.size ≠ w.heap.size + 1 + 1; omega) (.slice (some ⟨g1, 0, none⟩) hs.length hs.length)
  replace KR := KR.far (p := ⟨w.heap.size + 1 + 1, 0, none⟩) (by show w.heap.size + 1 ≠ w.heap.size + 1 + 1; omega) (.slice (some ⟨g1, 0, none⟩) hs.length hs.length)
  replace KO := KO.set_ 0 (.slice (some ⟨g1, 0, none⟩) hs.length hs.length)
  simp only [List.setIfInBounds_toArray, List.set_cons_zero, List.set_cons_succ] at KO
  replace B := B.setCell (p := ⟨w.heap.size + 1 + 1, 0, none⟩) (by show w.heap.size ≤ w.heap.size + 1 + 1; omega) (.slice (some ⟨g1, 0, none⟩) hs.length hs.length)
  replace F1 := flat_setC (b := w.heap.size + 1 + 1) (j := 0) (v := .slice (some ⟨g1, 0, none⟩) hs.length hs.length) F1 (by omega)
  obtain ⟨qa0, qa1, qa2, qa3, qa4, qa5, qa6, qa7, qa8, qa9⟩ := town_cells KA
  go_wp2_with fail
  clear fz0 oc0 qa0 qa1 qa2 qa3 qa4 qa5 qa6 qa7 qa8 qa9
  refine (C2.out _ B).mono ?_
  rintro e u2 ⟨g2, rfl, lg2, F2, C⟩
  have gl2 : w.heap.size + 1 + 1 + 1 ≤ g2 := (by have := KO.lt; omega)
  replace KA := KA.next C
  replace KR := KR.next C
  replace KO := KO.next C
  replace F1 := F1.next C
  replace B := bel_tr B C
  clear C
  have fz1 := KO.frozen 1
  have oc1 := KO.cell 1
  simp only [List.getElem?_toArray, List.getElem?_cons_zero, List.getElem?_cons_succ] at oc1
  replace KA := KA.far (p := ⟨w.heap.size + 1 + 1, 1, none⟩) (by show w.heap.size ≠ w.heap.size + 1 + 1; omega) (.slice (some ⟨g2, 0, none⟩) ts.length ts.length)
  replace KR := KR.far (p := ⟨w.heap.size + 1 + 1, 1, none⟩) (by show w.heap.size + 1 ≠ w.heap.size + 1 + 1; omega) (.slice (some ⟨g2, 0, none⟩) ts.length ts.length)
  replace KO := KO.set_ 1 (.slice (some ⟨g2, 0, none⟩) ts.length ts.length)
  simp only [List.setIfInBounds_toArray, List.set_cons_zero, List.set_cons_succ] at KO
  replace B := B.setCell (p := ⟨w.heap.size + 1 + 1, 1, none⟩) (by show w.heap.size ≤ w.heap.size + 1 + 1; omega) (.slice (some ⟨g2, 0, none⟩) ts.length ts.length)
  replace F1 := flat_setC (b := w.heap.size + 1 + 1) (j := 1) (v := .slice (some ⟨g2, 0, none⟩) ts.length ts.length) F1 (by omega)
  replace F2 := flat_setC (b := w.heap.size + 1 + 1) (j := 1) (v := .slice (some ⟨g2, 0, none⟩) ts.length ts.length) F2 (by omega)
  obtain ⟨qa0, qa1, qa2, qa3, qa4, qa5, qa6, qa7, qa8, qa9⟩ := town_cells KA
  go_wp2_with fail
  clear fz1 oc1 qa0 qa1 qa2 qa3 qa4 qa5 qa6 qa7 qa8 qa9
  refine (C3.out _ B).mono ?_
  rintro e u3 ⟨g3, rfl, lg3, F3, C⟩
  have gl3 : w.heap.size + 1 + 1 + 1 ≤ g3 := (by have := KO.lt; omega)
  replace KA := KA.next C
  replace KR := KR.next C
  replace KO := KO.next C
  replace F1 := F1.next C
  replace F2 := F2.next C
  replace B := bel_tr B C
  clear C
  have fz2 := KO.frozen 2
  have oc2 := KO.cell 2
  simp only [List.getElem?_toArray, List.getElem?_cons_zero, List.getElem?_cons_succ] at oc2
  replace KA := KA.far (p := ⟨w.heap.size + 1 + 1, 2, none⟩) (by show w.heap.size ≠ w.heap.size + 1 + 1; omega) (.slice (some ⟨g3, 0, none⟩) ns.length ns.length)
  replace KR := KR.far (p := ⟨w.heap.size + 1 + 1, 2, none⟩) (by show w.heap.size + 1 ≠ w.heap.size + 1 + 1; omega) (.slice (some ⟨g3, 0, none⟩) ns.length ns.length)
  replace KO := KO.set_ 2 (.slice (some ⟨g3, 0, none⟩) ns.length ns.length)
  simp only [List.setIfInBounds_toArray, List.set_cons_zero, List.set_cons_succ] at KO
  replace B := B.setCell (p := ⟨w.heap.size + 1 + 1, 2, none⟩) (by show w.heap.size ≤ w.heap.size + 1 + 1; omega) (.slice (some ⟨g3, 0, none⟩) ns.length ns.length)
  replace F1 := flat_setC (b := w.heap.size + 1 + 1) (j := 2) (v := .slice (some ⟨g3, 0, none⟩) ns.length ns.length) F1 (by omega)
  replace F2 := flat_setC (b := w.heap.size + 1 + 1) (j := 2) (v := .slice (some ⟨g3, 0, none⟩) ns.length ns.length) F2 (by omega)
  replace F3 := flat_setC (b := w.heap.size + 1 + 1) (j := 2) (v := .slice (some ⟨g3, 0, none⟩) ns.length ns.length) F3 (by omega)
  obtain ⟨qa0, qa1, qa2, qa3, qa4, qa5, qa6, qa7, qa8, qa9⟩ := town_cells KA
  go_wp2_with fail
  clear fz2 oc2 qa0 qa1 qa2 qa3 qa4 qa5 qa6 qa7 qa8 qa9
  refine (ltoBasin r hd _).mono ?_
  rintro e u4 ⟨rfl, C⟩
  replace KA := KA.next C
  replace KR := KR.next C
  replace KO := KO.next C
  replace F1 := F1.next C
  replace F2 := F2.next C
  replace F3 := F3.next C
  replace B := bel_tr B C
  clear C
  have fz3 := KO.frozen 3
  have oc3 := KO.cell 3
  simp only [List.getElem?_toArray, List.getElem?_cons_zero, List.getElem?_cons_succ] at oc3
  replace KA := KA.far (p := ⟨w.heap.size + 1 + 1, 3, none⟩) (by show w.heap.size ≠ w.heap.size + 1 + 1; omega) (.int .i64 r)
  replace KR := KR.far (p := ⟨w.heap.size + 1 + 1, 3, none⟩) (by show w.heap.size + 1 ≠ w.heap.size + 1 + 1; omega) (.int .i64 r)
  replace KO := KO.set_ 3 (.int .i64 r)
  simp only [List.setIfInBounds_toArray, List.set_cons_zero, List.set_cons_succ] at KO
  replace B := B.setCell (p := ⟨w.heap.size + 1 + 1, 3, none⟩) (by show w.heap.size ≤ w.heap.size + 1 + 1; omega) (.int .i64 r)
  replace F1 := flat_setC (b := w.heap.size + 1 + 1) (j := 3) (v := .int .i64 r) F1 (by omega)
  replace F2 := flat_setC (b := w.heap.size + 1 + 1) (j := 3) (v := .int .i64 r) F2 (by omega)
  replace F3 := flat_setC (b := w.heap.size + 1 + 1) (j := 3) (v := .int .i64 r) F3 (by omega)
  have fz4 := KO.frozen 4
  have oc4 := KO.cell 4
  simp only [List.getElem?_toArray, List.getElem?_cons_zero, List.getElem?_cons_succ] at oc4
  replace KA := KA.far (p := ⟨w.heap.size + 1 + 1, 4, none⟩) (by show w.heap.size ≠ w.heap.size + 1 + 1; omega) (.int .i64 hd)
  replace KR := KR.far (p := ⟨w.heap.size + 1 + 1, 4, none⟩) (by show w.heap.size + 1 ≠ w.heap.size + 1 + 1; omega) (.int .i64 hd)
  replace KO := KO.set_ 4 (.int .i64 hd)
  simp only [List.setIfInBounds_toArray, List.set_cons_zero, List.set_cons_succ] at KO
  replace B := B.setCell (p := ⟨w.heap.size + 1 + 1, 4, none⟩) (by show w.heap.size ≤ w.heap.size + 1 + 1; omega) (.int .i64 hd)
  replace F1 := flat_setC (b := w.heap.size + 1 + 1) (j := 4) (v := .int .i64 hd) F1 (by omega)
  replace F2 := flat_setC (b := w.heap.size + 1 + 1) (j := 4) (v := .int .i64 hd) F2 (by omega)
  replace F3 := flat_setC (b := w.heap.size + 1 + 1) (j := 4) (v := .int .i64 hd) F3 (by omega)
  obtain ⟨qa0, qa1, qa2, qa3, qa4, qa5, qa6, qa7, qa8, qa9⟩ := town_cells KA
  go_wp2_with fail
  clear fz3 oc3 fz4 oc4 qa0 qa1 qa2 qa3 qa4 qa5 qa6 qa7 qa8 qa9
  refine (C4.out _ B).mono ?_
  rintro e u5 ⟨g4, rfl, lg4, F4, C⟩
  have gl4 : w.heap.size + 1 + 1 + 1 ≤ g4 := (by have := KO.lt; omega)
  replace KA := KA.next C
  replace KR := KR.next C
  replace KO := KO.next C
  replace F1 := F1.next C
  replace F2 := F2.next C
  replace F3 := F3.next C
  replace B := bel_tr B C
  clear C C1 C2 C3 C4
  have H5 : Hid (Blk (World.setCell u5 ⟨w.heap.size + 1 + 1, 5, none⟩ (.slice (some ⟨g4, 0, none⟩) ac.length ac.length)) w.heap.size 29 #[.slice a1 hs.length c1, .slice a2 ts.length c2, .slice a3 ns.length c3, .int .i64 r, .int .i64 hd, .slice a4 ac.length c4, .int .i64 rt, .int .i64 tm, .int .i64 ls, .int .i64 cm] ∧ Blk (World.setCell u5 ⟨w.heap.size + 1 + 1, 5, none⟩ (.slice (some ⟨g4, 0, none⟩) ac.length ac.length)) (w.heap.size + 1) 38 #[.slice none 0 0, .slice none 0 0, .slice none 0 0, .int .i64 0, .int .i64 0, .slice none 0 0, .int .i64 0, .int .i64 0, .int .i64 0, .int .i64 0] ∧ Blk (World.setCell u5 ⟨w.heap.size + 1 + 1, 5, none⟩ (.slice (some ⟨g4, 0, none⟩) ac.length ac.length)) (w.heap.size + 1 + 1) 38 #[.slice (some ⟨g1, 0, none⟩) hs.length hs.length, .slice (some ⟨g2, 0, none⟩) ts.length ts.length, .slice (some ⟨g3, 0, none⟩) ns.length ns.length, .int .i64 r, .int .i64 hd, .slice (some ⟨g4, 0, none⟩) ac.length ac.length, .int .i64 0, .int .i64 0, .int .i64 0, .int .i64 0] ∧ Flat (World.setCell u5 ⟨w.heap.size + 1 + 1, 5, none⟩ (.slice (some ⟨g4, 0, none⟩) ac.length ac.length)) g1 97 (flatH hs) ∧ Flat (World.setCell u5 ⟨w.heap.size + 1 + 1, 5, none⟩ (.slice (some ⟨g4, 0, none⟩) ac.length ac.length)) g2 99 (flatTn ts) ∧ Flat (World.setCell u5 ⟨w.heap.size + 1 + 1, 5, none⟩ (.slice (some ⟨g4, 0, none⟩) ac.length ac.length)) g3 101 (flatNd ns) ∧ Flat (World.setCell u5 ⟨w.heap.size + 1 + 1, 5, none⟩ (.slice (some ⟨g4, 0, none⟩) ac.length ac.length)) g4 45 (flatAc ac) ∧ Below w.heap.size w (World.setCell u5 ⟨w.heap.size + 1 + 1, 5, none⟩ (.slice (some ⟨g4, 0, none⟩) ac.length ac.length))) := ⟨KA.far (p := ⟨w.heap.size + 1 + 1, 5, none⟩) (by show w.heap.size ≠ w.heap.size + 1 + 1; omega) (.slice (some ⟨g4, 0, none⟩) ac.length ac.length), KR.far (p := ⟨w.heap.size + 1 + 1, 5, none⟩) (by show w.heap.size + 1 ≠ w.heap.size + 1 + 1; omega) (.slice (some ⟨g4, 0, none⟩) ac.length ac.length), (by have q := KO.set_ 5 (.slice (some ⟨g4, 0, none⟩) ac.length ac.length); simp only [List.setIfInBounds_toArray, List.set_cons_zero, List.set_cons_succ] at q; exact q), flat_setC F1 (by omega), flat_setC F2 (by omega), flat_setC F3 (by omega), flat_setC F4 (by omega), B.setCell (p := ⟨w.heap.size + 1 + 1, 5, none⟩) (by show w.heap.size ≤ w.heap.size + 1 + 1; omega) (.slice (some ⟨g4, 0, none⟩) ac.length ac.length)⟩; have fz := KO.frozen 5; have oc := KO.cell 5; simp only [List.getElem?_toArray, List.getElem?_cons_zero, List.getElem?_cons_succ] at oc; clear KA KR KO F1 F2 F3 F4 B
  go_wp2_with (first | (show wpList _ _ _ _ _ (World.setCell u5 _ _); clear fz oc; generalize World.setCell u5 ⟨w.heap.size + 1 + 1, 5, none⟩ (.slice (some ⟨g4, 0, none⟩) ac.length ac.length) = u6 at H5 ⊢; obtain ⟨KA, KR, KO, F1, F2, F3, F4, B⟩ := H5.out; clear H5; have H6 : Hid (Blk (World.setCell u6 ⟨w.heap.size + 1 + 1, 6, none⟩ (.int .i64 rt)) w.heap.size 29 #[.slice a1 hs.length c1, .slice a2 ts.length c2, .slice a3 ns.length c3, .int .i64 r, .int .i64 hd, .slice a4 ac.length c4, .int .i64 rt, .int .i64 tm, .int .i64 ls, .int .i64 cm] ∧ Blk (World.setCell u6 ⟨w.heap.size + 1 + 1, 6, none⟩ (.int .i64 rt)) (w.heap.size + 1) 38 #[.slice none 0 0, .slice none 0 0, .slice none 0 0, .int .i64 0, .int .i64 0, .slice none 0 0, .int .i64 0, .int .i64 0, .int .i64 0, .int .i64 0] ∧ Blk (World.setCell u6 ⟨w.heap.size + 1 + 1, 6, none⟩ (.int .i64 rt)) (w.heap.size + 1 + 1) 38 #[.slice (some ⟨g1, 0, none⟩) hs.length hs.length, .slice (some ⟨g2, 0, none⟩) ts.length ts.length, .slice (some ⟨g3, 0, none⟩) ns.length ns.length, .int .i64 r, .int .i64 hd, .slice (some ⟨g4, 0, none⟩) ac.length ac.length, .int .i64 rt, .int .i64 0, .int .i64 0, .int .i64 0] ∧ Flat (World.setCell u6 ⟨w.heap.size + 1 + 1, 6, none⟩ (.int .i64 rt)) g1 97 (flatH hs) ∧ Flat (World.setCell u6 ⟨w.heap.size + 1 + 1, 6, none⟩ (.int .i64 rt)) g2 99 (flatTn ts) ∧ Flat (World.setCell u6 ⟨w.heap.size + 1 + 1, 6, none⟩ (.int .i64 rt)) g3 101 (flatNd ns) ∧ Flat (World.setCell u6 ⟨w.heap.size + 1 + 1, 6, none⟩ (.int .i64 rt)) g4 45 (flatAc ac) ∧ Below w.heap.size w (World.setCell u6 ⟨w.heap.size + 1 + 1, 6, none⟩ (.int .i64 rt))) := ⟨KA.far (p := ⟨w.heap.size + 1 + 1, 6, none⟩) (by show w.heap.size ≠ w.heap.size + 1 + 1; omega) (.int .i64 rt), KR.far (p := ⟨w.heap.size + 1 + 1, 6, none⟩) (by show w.heap.size + 1 ≠ w.heap.size + 1 + 1; omega) (.int .i64 rt), (by have q := KO.set_ 6 (.int .i64 rt); simp only [List.setIfInBounds_toArray, List.set_cons_zero, List.set_cons_succ] at q; exact q), flat_setC F1 (by omega), flat_setC F2 (by omega), flat_setC F3 (by omega), flat_setC F4 (by omega), B.setCell (p := ⟨w.heap.size + 1 + 1, 6, none⟩) (by show w.heap.size ≤ w.heap.size + 1 + 1; omega) (.int .i64 rt)⟩; have fz := KO.frozen 6; have oc := KO.cell 6; simp only [List.getElem?_toArray, List.getElem?_cons_zero, List.getElem?_cons_succ] at oc; have qa := KA.cell 6; simp only [List.getElem?_toArray, List.getElem?_cons_zero, List.getElem?_cons_succ] at qa; clear KA KR KO F1 F2 F3 F4 B) | (show wpList _ _ _ _ _ (World.setCell u6 _ _); clear fz oc qa; generalize World.setCell u6 ⟨w.heap.size + 1 + 1, 6, none⟩ (.int .i64 rt) = u7 at H6 ⊢; obtain ⟨KA, KR, KO, F1, F2, F3, F4, B⟩ := H6.out; clear H6; have H7 : Hid (Blk (World.setCell u7 ⟨w.heap.size + 1 + 1, 7, none⟩ (.int .i64 tm)) w.heap.size 29 #[.slice a1 hs.length c1, .slice a2 ts.length c2, .slice a3 ns.length c3, .int .i64 r, .int .i64 hd, .slice a4 ac.length c4, .int .i64 rt, .int .i64 tm, .int .i64 ls, .int .i64 cm] ∧ Blk (World.setCell u7 ⟨w.heap.size + 1 + 1, 7, none⟩ (.int .i64 tm)) (w.heap.size + 1) 38 #[.slice none 0 0, .slice none 0 0, .slice none 0 0, .int .i64 0, .int .i64 0, .slice none 0 0, .int .i64 0, .int .i64 0, .int .i64 0, .int .i64 0] ∧ Blk (World.setCell u7 ⟨w.heap.size + 1 + 1, 7, none⟩ (.int .i64 tm)) (w.heap.size + 1 + 1) 38 #[.slice (some ⟨g1, 0, none⟩) hs.length hs.length, .slice (some ⟨g2, 0, none⟩) ts.length ts.length, .slice (some ⟨g3, 0, none⟩) ns.length ns.length, .int .i64 r, .int .i64 hd, .slice (some ⟨g4, 0, none⟩) ac.length ac.length, .int .i64 rt, .int .i64 tm, .int .i64 0, .int .i64 0] ∧ Flat (World.setCell u7 ⟨w.heap.size + 1 + 1, 7, none⟩ (.int .i64 tm)) g1 97 (flatH hs) ∧ Flat (World.setCell u7 ⟨w.heap.size + 1 + 1, 7, none⟩ (.int .i64 tm)) g2 99 (flatTn ts) ∧ Flat (World.setCell u7 ⟨w.heap.size + 1 + 1, 7, none⟩ (.int .i64 tm)) g3 101 (flatNd ns) ∧ Flat (World.setCell u7 ⟨w.heap.size + 1 + 1, 7, none⟩ (.int .i64 tm)) g4 45 (flatAc ac) ∧ Below w.heap.size w (World.setCell u7 ⟨w.heap.size + 1 + 1, 7, none⟩ (.int .i64 tm))) := ⟨KA.far (p := ⟨w.heap.size + 1 + 1, 7, none⟩) (by show w.heap.size ≠ w.heap.size + 1 + 1; omega) (.int .i64 tm), KR.far (p := ⟨w.heap.size + 1 + 1, 7, none⟩) (by show w.heap.size + 1 ≠ w.heap.size + 1 + 1; omega) (.int .i64 tm), (by have q := KO.set_ 7 (.int .i64 tm); simp only [List.setIfInBounds_toArray, List.set_cons_zero, List.set_cons_succ] at q; exact q), flat_setC F1 (by omega), flat_setC F2 (by omega), flat_setC F3 (by omega), flat_setC F4 (by omega), B.setCell (p := ⟨w.heap.size + 1 + 1, 7, none⟩) (by show w.heap.size ≤ w.heap.size + 1 + 1; omega) (.int .i64 tm)⟩; have fz := KO.frozen 7; have oc := KO.cell 7; simp only [List.getElem?_toArray, List.getElem?_cons_zero, List.getElem?_cons_succ] at oc; have qa := KA.cell 7; simp only [List.getElem?_toArray, List.getElem?_cons_zero, List.getElem?_cons_succ] at qa; clear KA KR KO F1 F2 F3 F4 B) | (show wpList _ _ _ _ _ (World.setCell u7 _ _); clear fz oc qa; generalize World.setCell u7 ⟨w.heap.size + 1 + 1, 7, none⟩ (.int .i64 tm) = u8 at H7 ⊢; obtain ⟨KA, KR, KO, F1, F2, F3, F4, B⟩ := H7.out; clear H7; have H8 : Hid (Blk (World.setCell u8 ⟨w.heap.size + 1 + 1, 8, none⟩ (.int .i64 ls)) w.heap.size 29 #[.slice a1 hs.length c1, .slice a2 ts.length c2, .slice a3 ns.length c3, .int .i64 r, .int .i64 hd, .slice a4 ac.length c4, .int .i64 rt, .int .i64 tm, .int .i64 ls, .int .i64 cm] ∧ Blk (World.setCell u8 ⟨w.heap.size + 1 + 1, 8, none⟩ (.int .i64 ls)) (w.heap.size + 1) 38 #[.slice none 0 0, .slice none 0 0, .slice none 0 0, .int .i64 0, .int .i64 0, .slice none 0 0, .int .i64 0, .int .i64 0, .int .i64 0, .int .i64 0] ∧ Blk (World.setCell u8 ⟨w.heap.size + 1 + 1, 8, none⟩ (.int .i64 ls)) (w.heap.size + 1 + 1) 38 #[.slice (some ⟨g1, 0, none⟩) hs.length hs.length, .slice (some ⟨g2, 0, none⟩) ts.length ts.length, .slice (some ⟨g3, 0, none⟩) ns.length ns.length, .int .i64 r, .int .i64 hd, .slice (some ⟨g4, 0, none⟩) ac.length ac.length, .int .i64 rt, .int .i64 tm, .int .i64 ls, .int .i64 0] ∧ Flat (World.setCell u8 ⟨w.heap.size + 1 + 1, 8, none⟩ (.int .i64 ls)) g1 97 (flatH hs) ∧ Flat (World.setCell u8 ⟨w.heap.size + 1 + 1, 8, none⟩ (.int .i64 ls)) g2 99 (flatTn ts) ∧ Flat (World.setCell u8 ⟨w.heap.size + 1 + 1, 8, none⟩ (.int .i64 ls)) g3 101 (flatNd ns) ∧ Flat (World.setCell u8 ⟨w.heap.size + 1 + 1, 8, none⟩ (.int .i64 ls)) g4 45 (flatAc ac) ∧ Below w.heap.size w (World.setCell u8 ⟨w.heap.size + 1 + 1, 8, none⟩ (.int .i64 ls))) := ⟨KA.far (p := ⟨w.heap.size + 1 + 1, 8, none⟩) (by show w.heap.size ≠ w.heap.size + 1 + 1; omega) (.int .i64 ls), KR.far (p := ⟨w.heap.size + 1 + 1, 8, none⟩) (by show w.heap.size + 1 ≠ w.heap.size + 1 + 1; omega) (.int .i64 ls), (by have q := KO.set_ 8 (.int .i64 ls); simp only [List.setIfInBounds_toArray, List.set_cons_zero, List.set_cons_succ] at q; exact q), flat_setC F1 (by omega), flat_setC F2 (by omega), flat_setC F3 (by omega), flat_setC F4 (by omega), B.setCell (p := ⟨w.heap.size + 1 + 1, 8, none⟩) (by show w.heap.size ≤ w.heap.size + 1 + 1; omega) (.int .i64 ls)⟩; have fz := KO.frozen 8; have oc := KO.cell 8; simp only [List.getElem?_toArray, List.getElem?_cons_zero, List.getElem?_cons_succ] at oc; have qa := KA.cell 8; simp only [List.getElem?_toArray, List.getElem?_cons_zero, List.getElem?_cons_succ] at qa; clear KA KR KO F1 F2 F3 F4 B) | (show wpList _ _ _ _ _ (World.setCell u8 _ _); clear fz oc qa; generalize World.setCell u8 ⟨w.heap.size + 1 + 1, 8, none⟩ (.int .i64 ls) = u9 at H8 ⊢; obtain ⟨KA, KR, KO, F1, F2, F3, F4, B⟩ := H8.out; clear H8; have H9 : Hid (Blk (World.setCell u9 ⟨w.heap.size + 1 + 1, 9, none⟩ (.int .i64 cm)) w.heap.size 29 #[.slice a1 hs.length c1, .slice a2 ts.length c2, .slice a3 ns.length c3, .int .i64 r, .int .i64 hd, .slice a4 ac.length c4, .int .i64 rt, .int .i64 tm, .int .i64 ls, .int .i64 cm] ∧ Blk (World.setCell u9 ⟨w.heap.size + 1 + 1, 9, none⟩ (.int .i64 cm)) (w.heap.size + 1) 38 #[.slice none 0 0, .slice none 0 0, .slice none 0 0, .int .i64 0, .int .i64 0, .slice none 0 0, .int .i64 0, .int .i64 0, .int .i64 0, .int .i64 0] ∧ Blk (World.setCell u9 ⟨w.heap.size + 1 + 1, 9, none⟩ (.int .i64 cm)) (w.heap.size + 1 + 1) 38 #[.slice (some ⟨g1, 0, none⟩) hs.length hs.length, .slice (some ⟨g2, 0, none⟩) ts.length ts.length, .slice (some ⟨g3, 0, none⟩) ns.length ns.length, .int .i64 r, .int .i64 hd, .slice (some ⟨g4, 0, none⟩) ac.length ac.length, .int .i64 rt, .int .i64 tm, .int .i64 ls, .int .i64 cm] ∧ Flat (World.setCell u9 ⟨w.heap.size + 1 + 1, 9, none⟩ (.int .i64 cm)) g1 97 (flatH hs) ∧ Flat (World.setCell u9 ⟨w.heap.size + 1 + 1, 9, none⟩ (.int .i64 cm)) g2 99 (flatTn ts) ∧ Flat (World.setCell u9 ⟨w.heap.size + 1 + 1, 9, none⟩ (.int .i64 cm)) g3 101 (flatNd ns) ∧ Flat (World.setCell u9 ⟨w.heap.size + 1 + 1, 9, none⟩ (.int .i64 cm)) g4 45 (flatAc ac) ∧ Below w.heap.size w (World.setCell u9 ⟨w.heap.size + 1 + 1, 9, none⟩ (.int .i64 cm))) := ⟨KA.far (p := ⟨w.heap.size + 1 + 1, 9, none⟩) (by show w.heap.size ≠ w.heap.size + 1 + 1; omega) (.int .i64 cm), KR.far (p := ⟨w.heap.size + 1 + 1, 9, none⟩) (by show w.heap.size + 1 ≠ w.heap.size + 1 + 1; omega) (.int .i64 cm), (by have q := KO.set_ 9 (.int .i64 cm); simp only [List.setIfInBounds_toArray, List.set_cons_zero, List.set_cons_succ] at q; exact q), flat_setC F1 (by omega), flat_setC F2 (by omega), flat_setC F3 (by omega), flat_setC F4 (by omega), B.setCell (p := ⟨w.heap.size + 1 + 1, 9, none⟩) (by show w.heap.size ≤ w.heap.size + 1 + 1; omega) (.int .i64 cm)⟩; have fz := KO.frozen 9; have oc := KO.cell 9; simp only [List.getElem?_toArray, List.getElem?_cons_zero, List.getElem?_cons_succ] at oc; have qa := KA.cell 9; simp only [List.getElem?_toArray, List.getElem?_cons_zero, List.getElem?_cons_succ] at qa; clear KA KR KO F1 F2 F3 F4 B) | (show wpList _ _ _ _ _ (World.setCell u9 _ _); clear fz oc qa; generalize World.setCell u9 ⟨w.heap.size + 1 + 1, 9, none⟩ (.int .i64 cm) = u10 at H9 ⊢; obtain ⟨KA, KR, KO, F1, F2, F3, F4, B⟩ := H9.out; clear H9; obtain ⟨qo0, qo1, qo2, qo3, qo4, qo5, qo6, qo7, qo8, qo9⟩ := town_cells KO; obtain ⟨qr0, qr1, qr2, qr3, qr4, qr5, qr6, qr7, qr8, qr9⟩ := town_cells KR; have fr0 := KR.frozen 0; have fr1 := KR.frozen 1; have fr2 := KR.frozen 2; have fr3 := KR.frozen 3; have fr4 := KR.frozen 4; have fr5 := KR.frozen 5; have fr6 := KR.frozen 6; have fr7 := KR.frozen 7; have fr8 := KR.frozen 8; have fr9 := KR.frozen 9; clear KA))
  have K2 := sets10_blk (v0 := .slice (some ⟨g1, 0, none⟩) hs.length hs.length) (v1 := .slice (some ⟨g2, 0, none⟩) ts.length ts.length) (v2 := .slice (some ⟨g3, 0, none⟩) ns.length ns.length) (v3 := .int .i64 r) (v4 := .int .i64 hd) (v5 := .slice (some ⟨g4, 0, none⟩) ac.length ac.length) (v6 := .int .i64 rt) (v7 := .int .i64 tm) (v8 := .int .i64 ls) (v9 := .int .i64 cm) KR
  have G1 := sets10_flat (b := w.heap.size + 1) (v0 := .slice (some ⟨g1, 0, none⟩) hs.length hs.length) (v1 := .slice (some ⟨g2, 0, none⟩) ts.length ts.length) (v2 := .slice (some ⟨g3, 0, none⟩) ns.length ns.length) (v3 := .int .i64 r) (v4 := .int .i64 hd) (v5 := .slice (some ⟨g4, 0, none⟩) ac.length ac.length) (v6 := .int .i64 rt) (v7 := .int .i64 tm) (v8 := .int .i64 ls) (v9 := .int .i64 cm) F1 (by omega)
  have G2 := sets10_flat (b := w.heap.size + 1) (v0 := .slice (some ⟨g1, 0, none⟩) hs.length hs.length) (v1 := .slice (some ⟨g2, 0, none⟩) ts.length ts.length) (v2 := .slice (some ⟨g3, 0, none⟩) ns.length ns.length) (v3 := .int .i64 r) (v4 := .int .i64 hd) (v5 := .slice (some ⟨g4, 0, none⟩) ac.length ac.length) (v6 := .int .i64 rt) (v7 := .int .i64 tm) (v8 := .int .i64 ls) (v9 := .int .i64 cm) F2 (by omega)
  have G3 := sets10_flat (b := w.heap.size + 1) (v0 := .slice (some ⟨g1, 0, none⟩) hs.length hs.length) (v1 := .slice (some ⟨g2, 0, none⟩) ts.length ts.length) (v2 := .slice (some ⟨g3, 0, none⟩) ns.length ns.length) (v3 := .int .i64 r) (v4 := .int .i64 hd) (v5 := .slice (some ⟨g4, 0, none⟩) ac.length ac.length) (v6 := .int .i64 rt) (v7 := .int .i64 tm) (v8 := .int .i64 ls) (v9 := .int .i64 cm) F3 (by omega)
  have G4 := sets10_flat (b := w.heap.size + 1) (v0 := .slice (some ⟨g1, 0, none⟩) hs.length hs.length) (v1 := .slice (some ⟨g2, 0, none⟩) ts.length ts.length) (v2 := .slice (some ⟨g3, 0, none⟩) ns.length ns.length) (v3 := .int .i64 r) (v4 := .int .i64 hd) (v5 := .slice (some ⟨g4, 0, none⟩) ac.length ac.length) (v6 := .int .i64 rt) (v7 := .int .i64 tm) (v8 := .int .i64 ls) (v9 := .int .i64 cm) F4 (by omega)
  have B2 := sets10_below (b := w.heap.size + 1) (v0 := .slice (some ⟨g1, 0, none⟩) hs.length hs.length) (v1 := .slice (some ⟨g2, 0, none⟩) ts.length ts.length) (v2 := .slice (some ⟨g3, 0, none⟩) ns.length ns.length) (v3 := .int .i64 r) (v4 := .int .i64 hd) (v5 := .slice (some ⟨g4, 0, none⟩) ac.length ac.length) (v6 := .int .i64 rt) (v7 := .int .i64 tm) (v8 := .int .i64 ls) (v9 := .int .i64 cm) B (by omega)
  clear KR KO F1 F2 F3 F4 B qo0 qo1 qo2 qo3 qo4 qo5 qo6 qo7 qo8 qo9 qr0 qr1 qr2 qr3 qr4 qr5 qr6 qr7 qr8 qr9 fr0 fr1 fr2 fr3 fr4 fr5 fr6 fr7 fr8 fr9
  change bodyPost _ _ _ _ _ (sets10 u10 (w.heap.size + 1) (.slice (some ⟨g1, 0, none⟩) hs.length hs.length) (.slice (some ⟨g2, 0, none⟩) ts.length ts.length) (.slice (some ⟨g3, 0, none⟩) ns.length ns.length) (.int .i64 r) (.int .i64 hd) (.slice (some ⟨g4, 0, none⟩) ac.length ac.length) (.int .i64 rt) (.int .i64 tm) (.int .i64 ls) (.int .i64 cm))
  generalize sets10 u10 (w.heap.size + 1) (.slice (some ⟨g1, 0, none⟩) hs.length hs.length) (.slice (some ⟨g2, 0, none⟩) ts.length ts.length) (.slice (some ⟨g3, 0, none⟩) ns.length ns.length) (.int .i64 r) (.int .i64 hd) (.slice (some ⟨g4, 0, none⟩) ac.length ac.length) (.int .i64 rt) (.int .i64 tm) (.int .i64 ls) (.int .i64 cm) = u11 at K2 G1 G2 G3 G4 B2 ⊢
  obtain ⟨q0, q1, q2, q3, q4, q5, q6, q7, q8, q9⟩ := town_cells K2
  refine bodyPost_ret (v := twV ⟨some ⟨g1, 0, none⟩, hs.length, some ⟨g2, 0, none⟩, ts.length, some ⟨g3, 0, none⟩, ns.length, some ⟨g4, 0, none⟩, ac.length⟩ ⟨hs, ts, ns, r, hd, ac, rt, tm, ls, cm⟩) (by simp [results, Try.results13, go_sem, q0, q1, q2, q3, q4, q5, q6, q7, q8, q9, twV]) rfl ⟨_, rfl, ?_, B2⟩
  exact ⟨.inr ⟨_, _, rfl, by omega, G1, Nat.le_refl _⟩, N1.out, .inr ⟨_, _, rfl, by omega, G2, Nat.le_refl _⟩, N2.out, .inr ⟨_, _, rfl, by omega, G3, Nat.le_refl _⟩, N3.out, .inr ⟨_, _, rfl, by omega, G4, Nat.le_refl _⟩, N4.out⟩
end Go.Proofs.Ytgmmdpdlekpmfaa
