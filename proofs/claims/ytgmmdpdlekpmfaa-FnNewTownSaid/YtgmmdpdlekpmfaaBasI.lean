/- Basins by the program: what is valid, one hour. Condition: at most 1048576 numbers. -/
import Derived.Test.YtgmmdpdlekpmfaaBasP
import Derived.Test.YtgmmdpdlekpmfaaVfl
import Derived.Test.YtgmmdpdlekpmfaaGrA
namespace Go.Proofs.Ytgmmdpdlekpmfaa
open Go.RowKit
set_option linter.unusedSimpArgs false
set_option linter.unusedVariables false
/-- impl.ValidBasin -/
theorem iVB (r h : Int) (w : World) :
    Calls Try.prog 52 #[.agg #[.int .i64 r, .int .i64 h]] w fun e w' => e = .returned (.bool (vbB r h)) ∧ Below w.heap.size w w' := by
  by_cases a : r < 0 ∨ 20000 < r
  · rw [vb_no (by omega)]
    go_enter Try.func52, Try.ntmps52
    go_wp2_with fail
    refine (iwithin_no r 20000 _ a).mono ?_
    rintro e w' ⟨rfl, rfl⟩
    go_wp2_with fail
    go_ret
    exact ⟨rfl, by go_grown⟩
  · have a1 : 0 ≤ r := by omega
    have a2 : r ≤ 20000 := by omega
    by_cases b : h < 0 ∨ r < h
    · rw [vb_no (by omega)]
      clear a
      go_enter Try.func52, Try.ntmps52
      go_wp2_with fail
      refine (iwithin_yes r 20000 _ a1 a2).mono ?_
      rintro e w' ⟨rfl, rfl⟩
      go_wp2_with fail
      refine (iwithin_no h r _ b).mono ?_
      rintro e w' ⟨rfl, rfl⟩
      go_wp2_with fail
      go_ret
      exact ⟨rfl, by go_grown⟩
    · have b1 : 0 ≤ h := by omega
      have b2 : h ≤ r := by omega
      rw [vb_iff.2 ⟨a1, a2, b1, b2⟩]
      clear a b
      go_enter Try.func52, Try.ntmps52
      go_wp2_with fail
      refine (iwithin_yes r 20000 _ a1 a2).mono ?_
      rintro e w' ⟨rfl, rfl⟩
      go_wp2_with fail
      refine (iwithin_yes h r _ b1 b2).mono ?_
      rintro e w' ⟨rfl, rfl⟩
      go_wp2_with fail
      go_ret
      exact ⟨rfl, by go_grown⟩
/-- what StepBasin tells -/
def stB (r h c w : Int) : Bool := vbB r h && (decide (0 ≤ c) && decide (c ≤ 500)) && (decide (0 ≤ w) && decide (w ≤ 500))
def stV (r h c w : Int) : Value := if stB r h c w then .tuple #[.agg #[.int .i64 r, .int .i64 (stepH r h c w)], .int .i64 (giveH h c w), .int .i64 (spillH r h c w)] else .tuple #[.agg #[.int .i64 0, .int .i64 0], .int .i64 0, .int .i64 0]
theorem stV_no {r h c w : Int} (e : stB r h c w = false) : stV r h c w = .tuple #[.agg #[.int .i64 0, .int .i64 0], .int .i64 0, .int .i64 0] := by unfold stV; rw [e]; rfl
theorem stV_yes {r h c w : Int} (e : stB r h c w = true) : stV r h c w = .tuple #[.agg #[.int .i64 r, .int .i64 (stepH r h c w)], .int .i64 (giveH h c w), .int .i64 (spillH r h c w)] := by unfold stV; rw [e]; rfl
theorem stB_no {r h c w : Int} (e : vbB r h = false ∨ (c < 0 ∨ 500 < c) ∨ (w < 0 ∨ 500 < w)) : stB r h c w = false := by
  unfold stB
  rcases e with e | e | e
  · rw [e]; rfl
  · rw [show (decide (0 ≤ c) && decide (c ≤ 500)) = false from by simp; omega]; simp
  · rw [show (decide (0 ≤ w) && decide (w ≤ 500)) = false from by simp; omega]; simp
theorem stB_yes {r h c w : Int} (e : vbB r h = true) (a : 0 ≤ c ∧ c ≤ 500) (b : 0 ≤ w ∧ w ≤ 500) : stB r h c w = true := by
  unfold stB; rw [e, decide_eq_true a.1, decide_eq_true a.2, decide_eq_true b.1, decide_eq_true b.2]; rfl
end Go.Proofs.Ytgmmdpdlekpmfaa
