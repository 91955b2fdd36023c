/- Tests of numbers, their answers as values. No condition. -/
import Derived.Test.YtgmmdpdlekpmfaaTwP
import Derived.Test.YtgmmdpdlekpmfaaGrA
import Derived.Test.YtgmmdpdlekpmfaaTurnV
namespace Go.Proofs.Ytgmmdpdlekpmfaa
open Go.RowKit
set_option linter.unusedSimpArgs false
set_option linter.unusedVariables false
theorem inB3_yes {n l h : Int} (a : inB3 n l h = true) : l ≤ n ∧ n ≤ h := by unfold inB3 at a; simpa using a
theorem inB3_no {n l h : Int} (a : inB3 n l h = false) : n < l ∨ h < n := by
  unfold inB3 at a
  by_cases b : l ≤ n
  · by_cases c : n ≤ h
    · rw [decide_eq_true b, decide_eq_true c] at a; cases a
    · exact .inr (by omega)
  · exact .inl (by omega)
theorem srange3 (n l h : Int) (w : World) :
    Calls Try.prog 63 #[.int .i64 n, .int .i64 l, .int .i64 h] w fun e w' => e = .returned (.bool (inB3 n l h)) ∧ w = w' := by
  cases a : inB3 n l h with
  | true => exact inRange_yes n l h w (inB3_yes a).1 (inB3_yes a).2
  | false => exact inRange_no n l h w (inB3_no a)
theorem iwithin3 (n m : Int) (w : World) :
    Calls Try.prog 54 #[.int .i64 n, .int .i64 m] w fun e w' => e = .returned (.bool (inB3 n 0 m)) ∧ w = w' := by
  cases a : inB3 n 0 m with
  | true => exact iwithin_yes n m w (inB3_yes a).1 (inB3_yes a).2
  | false => exact iwithin_no n m w (inB3_no a)
theorem itime3 (n : Int) (w : World) :
    Calls Try.prog 55 #[.int .i64 n] w fun e w' => e = .returned (.bool (inB3 n 0 5000)) ∧ w = w' := by
  cases a : inB3 n 0 5000 with
  | true => exact itime_yes n w (inB3_yes a).1 (inB3_yes a).2
  | false => exact itime_no n w (inB3_no a)
theorem iowner3 (n : Int) (w : World) :
    Calls Try.prog 64 #[.int .i64 n] w fun e w' => e = .returned (.bool (inB3 n 1 999)) ∧ w = w' := by
  cases a : inB3 n 1 999 with
  | true => exact iowner_yes n w (inB3_yes a).1 (inB3_yes a).2
  | false => exact iowner_no n w (inB3_no a)
theorem itown_last {s hd ls cm : Int} (R : Bool) (h : R = decide (s + hd + ls = cm)) : (Ending.returned (.bool (s + hd + ls == cm))) = .returned (.bool R) := by
  rw [h]; congr 2
end Go.Proofs.Ytgmmdpdlekpmfaa
