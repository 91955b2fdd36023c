/- UnitsTo and NewTown, by both. Condition: at most 1048576 of each. -/
import Derived.Test.YtgmmdpdlekpmfaaTwI
import Derived.Test.YtgmmdpdlekpmfaaTwS
import Derived.Test.YtgmmdpdlekpmfaaTwO
import Derived.Test.YtgmmdpdlekpmfaaAccP
namespace Go.Proofs.Ytgmmdpdlekpmfaa
open Go.RowKit
set_option linter.unusedSimpArgs false
set_option linter.unusedVariables false

def unV (t : Tw) (q : Int) : Int := if twB t then untV t.ac q else -1
theorem unt_at {ac : List Ac} {q : Int} {k : Nat} (hk : k < ac.length) (h : ∀ j, j < k → (ac.getD j ac0).1 ≠ q) (e : (ac.getD k ac0).1 = q) : untV ac q = (ac.getD k ac0).2 := by
  induction ac generalizing k with
  | nil => exact absurd hk (Nat.not_lt_zero _)
  | cons a t ih =>
    cases k with
    | zero =>
      have e : a.1 = q := e
      show (if a.1 = q then _ else _) = _
      rw [if_pos e]; rfl
    | succ k =>
      have h0 : ¬ a.1 = q := h 0 (Nat.succ_pos _)
      show (if a.1 = q then _ else _) = _
      rw [if_neg h0]
      exact ih (by simpa using hk) (fun j hj => h (j + 1) (by omega)) e
theorem unt_all {ac : List Ac} {q : Int} (h : ∀ j, j < ac.length → (ac.getD j ac0).1 ≠ q) : untV ac q = 0 := unt_none (fun a ha => by
  obtain ⟨i, hi, rfl⟩ := List.mem_iff_getElem.1 ha
  have := h i hi
  rw [List.getD_eq_getElem?_getD, List.getElem?_eq_getElem hi] at this
  exact this)
theorem no_more {f : Nat → Prop} {k : Nat} (h : ∀ j, j < k → f j) (hk : f k) : ∀ j, j < k + 1 → f j := fun j hj => by
  by_cases e : j = k
  · subst e; exact hk
  · exact h j (by omega)
/-- a new town -/
def newT (o r rt : Int) : Tw := if inB3 o 1 999 && (inB3 r 0 20000 && inB3 rt 0 500) then ⟨[(o, 1, 1)], [(o, 24)], [(-1, 0, 0, 500, 0)], r, 0, [], rt, 0, 0, 0⟩ else Tw.zero
/-- spec.ValidTown -/
theorem sVTw (p : TA) (t : Tw) (w : World) (h : IsTw w p t) :
    Calls Try.prog 12 #[twV p t] w fun e w' => e = .returned (.bool (twB t)) ∧ Below w.heap.size w w' := by
  have CV := fun W (hW : Below w.heap.size w W) => svtw p t W (tw_below h hW)
  clear h
  obtain ⟨a1, c1, a2, c2, a3, c3, a4, c4⟩ := p
  obtain ⟨hs, ts, ns, r, hd, ac, rt, tm, ls, cm⟩ := t
  change ∀ W, Below w.heap.size w W → Calls Try.prog _ #[.agg #[.slice a1 hs.length c1, .slice a2 ts.length c2, .slice a3 ns.length c3, .int .i64 r, .int .i64 hd, .slice a4 ac.length c4, .int .i64 rt, .int .i64 tm, .int .i64 ls, .int .i64 cm]] W _ at CV
  show Calls _ _ #[.agg #[.slice a1 hs.length c1, .slice a2 ts.length c2, .slice a3 ns.length c3, .int .i64 r, .int .i64 hd, .slice a4 ac.length c4, .int .i64 rt, .int .i64 tm, .int .i64 ls, .int .i64 cm]] _ _
  go_enter Try.func12, Try.ntmps12
  have B := (Below.refl w.heap.size w).alloc (Nat.le_refl _) (.cells #[.slice a1 hs.length c1, .slice a2 ts.length c2, .slice a3 ns.length c3, .int .i64 r, .int .i64 hd, .slice a4 ac.length c4, .int .i64 rt, .int .i64 tm, .int .i64 ls, .int .i64 cm] 38)
  have K := Blk.new w 38 #[.slice a1 hs.length c1, .slice a2 ts.length c2, .slice a3 ns.length c3, .int .i64 r, .int .i64 hd, .slice a4 ac.length c4, .int .i64 rt, .int .i64 tm, .int .i64 ls, .int .i64 cm]
  obtain ⟨q0, q1, q2, q3, q4, q5, q6, q7, q8, q9⟩ := town_cells K
  go_wp2_with fail
  refine (CV _ B).mono ?_
  rintro e u ⟨rfl, C⟩
  replace B := bel_tr B C
  clear K C q0 q1 q2 q3 q4 q5 q6 q7 q8 q9
  go_wp2_with fail
  go_ret
  exact ⟨rfl, B⟩
set_option maxRecDepth 100000 in
set_option maxHeartbeats 4000000 in
/-- impl.UnitsTo -/
theorem iUnitsTo (p : TA) (t : Tw) (q : Int) (w : World) (h : IsTw w p t) :
    Calls Try.prog 25 #[twV p t, .int .i64 q] w fun e w' => e = .returned (.int .i64 (unV t q)) ∧ Below w.heap.size w w' := by
  have CV := fun W (hW : Below w.heap.size w W) => iVTw p t W (tw_below h hW)
  obtain ⟨R, hR⟩ : ∃ R, unV t q = R := ⟨_, rfl⟩
  rw [hR]
  unfold unV at hR
  obtain ⟨b, hb⟩ : ∃ b, twB t = b := ⟨_, rfl⟩
  rw [hb] at CV hR
  have H4 := Lib.hid h.h4
  have N4 := h.n4
  obtain ⟨a1, c1, a2, c2, a3, c3, a4, c4⟩ := p
  obtain ⟨hs, ts, ns, r, hd, ac, rt, tm, ls, cm⟩ := t
  dsimp only at H4 N4 hR
  have HR := Lib.hid hR
  clear hR hb h
  change ∀ W, Below w.heap.size w W → Calls Try.prog _ #[.agg #[.slice a1 hs.length c1, .slice a2 ts.length c2, .slice a3 ns.length c3, .int .i64 r, .int .i64 hd, .slice a4 ac.length c4, .int .i64 rt, .int .i64 tm, .int .i64 ls, .int .i64 cm]] W _ at CV
  show Calls _ _ #[.agg #[.slice a1 hs.length c1, .slice a2 ts.length c2, .slice a3 ns.length c3, .int .i64 r, .int .i64 hd, .slice a4 ac.length c4, .int .i64 rt, .int .i64 tm, .int .i64 ls, .int .i64 cm], .int .i64 q] _ _
  go_enter Try.func25, Try.ntmps25
  have K := Blk.new w 38 #[.slice a1 hs.length c1, .slice a2 ts.length c2, .slice a3 ns.length c3, .int .i64 r, .int .i64 hd, .slice a4 ac.length c4, .int .i64 rt, .int .i64 tm, .int .i64 ls, .int .i64 cm]
  have B := (Below.refl w.heap.size w).alloc (Nat.le_refl _) (.cells #[.slice a1 hs.length c1, .slice a2 ts.length c2, .slice a3 ns.length c3, .int .i64 r, .int .i64 hd, .slice a4 ac.length c4, .int .i64 rt, .int .i64 tm, .int .i64 ls, .int .i64 cm] 38)
  obtain ⟨q0, q1, q2, q3, q4, q5, q6, q7, q8, q9⟩ := town_cells K
  go_wp2_with fail
  refine (CV _ B).mono ?_
  rintro e u ⟨rfl, C⟩
  replace K := K.next C
  replace B := bel_tr B C
  clear C q0 q1 q2 q3 q4 q5 q6 q7 q8 q9 CV
  cases b with
  | false =>
    go_wp2_with fail
    go_ret
    exact ⟨ret_int HR.out, B⟩
  | true =>
    replace HR : Hid (untV ac q = R) := HR.out
    obtain ⟨q0, q1, q2, q3, q4, q5, q6, q7, q8, q9⟩ := town_cells K
    have HI := Lib.hid (ac_below H4.out B)
    clear H4
    rcases HI.out with rfl | ⟨g, og, rfl, hc⟩
    · go_wp2_with fail
      refine wp_loop_rounds 1 ?_
      rw [rounds_succ]
      go_wp2_with fail
      go_ret
      exact ⟨ret_int HR.out, B⟩
    have HC := Lib.hid hc
    clear hc HI q0 q1 q2 q3 q4 q6 q7 q8 q9
    go_wp2_with fail
    go_loopw [13] (fun i wr => ∃ k : Nat, k ≤ ac.length ∧ i = .int .i64 k ∧ Hid (∀ j, j < k → (ac.getD j ac0).1 ≠ q) ∧ Below u.heap.size u wr) (fun i _ => ac.length - (intOf i).toNat)
    case atStart => exact ⟨0, Nat.zero_le _, rfl, (fun j hj => absurd hj (Nat.not_lt_zero _)), Below.refl _ _⟩
    case round =>
      obtain ⟨k, hk, rfl, HA, hB⟩ := hrel
      have HB := Lib.hid (bel_tr B hB)
      by_cases hlt : k < ac.length
      · obtain ⟨x0, x1⟩ := ac_at HC.out hB hlt
        have HU := Lib.hid (fun e => unt_at hlt HA.out e)
        have HN := Lib.hid (fun e => no_more (f := fun j => (ac.getD j ac0).1 ≠ q) HA.out e)
        generalize ac.getD k ac0 = z at x0 x1 HU HN
        obtain ⟨x, y⟩ := z
        dsimp only at x0 x1
        have HBu := Lib.hid (hB.alloc hB.size (.cells #[.int .i64 x, .int .i64 y] 45))
        have HBw := Lib.hid (HB.out.alloc HB.out.size (.cells #[.int .i64 x, .int .i64 y] 45))
        clear hB
        by_cases e : x = q
        · have e1 : (x == q) = true := by simpa using e
          have hu := HU.out e
          dsimp only at hu
          rw [HR.out] at hu
          have HV := Lib.hid hu
          clear e hu
          go_wp2_with fail
          go_ret
          exact ⟨ret_int HV.out.symm, HBw.out⟩
        · have e1 : (x == q) = false := by simpa using e
          have HN2 := Lib.hid (HN.out e)
          clear e
          go_wp2_with fail
          go_roundw
          case rel => exact ⟨k + 1, by omega, by go_num, HN2.out, HBu.out⟩
          case measure => simp [intOf]; omega
      · have HV : Hid (R = 0) := by rw [← HR.out]; exact unt_all (fun j hj => HA.out j (by omega))
        go_wp2_with fail
        go_ret
        exact ⟨ret_int HV.out.symm, HB.out⟩
set_option maxRecDepth 100000 in
set_option maxHeartbeats 4000000 in
/-- spec.UnitsTo -/
theorem sUnitsTo (p : TA) (t : Tw) (q : Int) (w : World) (h : IsTw w p t) :
    Calls Try.prog 26 #[twV p t, .int .i64 q] w fun e w' => e = .returned (.int .i64 (unV t q)) ∧ Below w.heap.size w w' := by
  have CV := fun W (hW : Below w.heap.size w W) => svtw p t W (tw_below h hW)
  obtain ⟨R, hR⟩ : ∃ R, unV t q = R := ⟨_, rfl⟩
  rw [hR]
  unfold unV at hR
  obtain ⟨b, hb⟩ : ∃ b, twB t = b := ⟨_, rfl⟩
  rw [hb] at CV hR
  have H4 := Lib.hid h.h4
  have N4 := h.n4
  obtain ⟨a1, c1, a2, c2, a3, c3, a4, c4⟩ := p
  obtain ⟨hs, ts, ns, r, hd, ac, rt, tm, ls, cm⟩ := t
  dsimp only at H4 N4 hR
  have HR := Lib.hid hR
  clear hR hb h
  change ∀ W, Below w.heap.size w W → Calls Try.prog _ #[.agg #[.slice a1 hs.length c1, .slice a2 ts.length c2, .slice a3 ns.length c3, .int .i64 r, .int .i64 hd, .slice a4 ac.length c4, .int .i64 rt, .int .i64 tm, .int .i64 ls, .int .i64 cm]] W _ at CV
  show Calls _ _ #[.agg #[.slice a1 hs.length c1, .slice a2 ts.length c2, .slice a3 ns.length c3, .int .i64 r, .int .i64 hd, .slice a4 ac.length c4, .int .i64 rt, .int .i64 tm, .int .i64 ls, .int .i64 cm], .int .i64 q] _ _
  go_enter Try.func26, Try.ntmps26
  have K := Blk.new w 38 #[.slice a1 hs.length c1, .slice a2 ts.length c2, .slice a3 ns.length c3, .int .i64 r, .int .i64 hd, .slice a4 ac.length c4, .int .i64 rt, .int .i64 tm, .int .i64 ls, .int .i64 cm]
  have B := (Below.refl w.heap.size w).alloc (Nat.le_refl _) (.cells #[.slice a1 hs.length c1, .slice a2 ts.length c2, .slice a3 ns.length c3, .int .i64 r, .int .i64 hd, .slice a4 ac.length c4, .int .i64 rt, .int .i64 tm, .int .i64 ls, .int .i64 cm] 38)
  obtain ⟨q0, q1, q2, q3, q4, q5, q6, q7, q8, q9⟩ := town_cells K
  go_wp2_with fail
  refine (CV _ B).mono ?_
  rintro e u ⟨rfl, C⟩
  replace K := K.next C
  replace B := bel_tr B C
  clear C q0 q1 q2 q3 q4 q5 q6 q7 q8 q9 CV
  cases b with
  | false =>
    go_wp2_with fail
    go_ret
    exact ⟨ret_int HR.out, B⟩
  | true =>
    replace HR : Hid (untV ac q = R) := HR.out
    obtain ⟨q0, q1, q2, q3, q4, q5, q6, q7, q8, q9⟩ := town_cells K
    have HI := Lib.hid (ac_below H4.out B)
    clear H4
    rcases HI.out with rfl | ⟨g, og, rfl, hc⟩
    · go_wp2_with fail
      refine wp_loop_rounds 1 ?_
      rw [rounds_succ]
      go_wp2_with fail
      go_ret
      exact ⟨ret_int HR.out, B⟩
    have HC := Lib.hid hc
    clear hc HI q0 q1 q2 q3 q4 q6 q7 q8 q9
    go_wp2_with fail
    go_loop [5] (fun i => ∃ k : Nat, k ≤ ac.length ∧ i = .int .i64 k ∧ Hid (∀ j, j < k → (ac.getD j ac0).1 ≠ q)) (fun i => ac.length - (intOf i).toNat)
    case atStart => exact ⟨0, Nat.zero_le _, rfl, (fun j hj => absurd hj (Nat.not_lt_zero _))⟩
    case round =>
      obtain ⟨k, hk, rfl, HA⟩ := hrel
      by_cases hlt : k < ac.length
      · obtain ⟨x0, x1⟩ := HC.out k hlt
        have HU := Lib.hid (fun e => unt_at hlt HA.out e)
        have HN := Lib.hid (fun e => no_more (f := fun j => (ac.getD j ac0).1 ≠ q) HA.out e)
        generalize ac.getD k ac0 = z at x0 x1 HU HN
        obtain ⟨x, y⟩ := z
        dsimp only at x0 x1
        by_cases e : x = q
        · have e1 : (x == q) = true := by simpa using e
          have hu := HU.out e
          dsimp only at hu
          rw [HR.out] at hu
          have HV := Lib.hid hu
          clear e hu
          go_wp2_with fail
          go_ret
          exact ⟨ret_int HV.out.symm, B⟩
        · have e1 : (x == q) = false := by simpa using e
          have HN2 := Lib.hid (HN.out e)
          clear e
          go_wp2_with fail
          go_round
          case rel => exact ⟨k + 1, by omega, by go_num, HN2.out⟩
          case measure => simp [intOf]; omega
      · have HV : Hid (R = 0) := by rw [← HR.out]; exact unt_all (fun j hj => HA.out j (by omega))
        go_wp2_with fail
        go_ret
        exact ⟨ret_int HV.out.symm, B⟩
end Go.Proofs.Ytgmmdpdlekpmfaa
