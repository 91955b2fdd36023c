/- SplitByHighest and SplitByMiddle, impl's. Condition: at most 1048576 numbers. -/
import Derived.Test.YtigapnbpgbfbhacRest
namespace Go.Proofs.Ytigapnbpgbfbhac
open Go.RowKit

theorem fac_all {step x v : Int} (h : 1 ≤ step ∧ step ≤ 2) (hx : 0 ≤ x ∧ x ≤ 1000) (hv : 0 ≤ v ∧ v ≤ 1000) :
    0 ≤ step * v ∧ step * v ≤ 2000 ∧ 0 ≤ x * (step * v + 1) ∧ x * (step * v + 1) ≤ 2001000 := by
  have a := Int.mul_nonneg (a := step) (by omega) hv.1
  have b : step * v ≤ 2 * 1000 := Int.mul_le_mul h.2 hv.2 hv.1 (by omega)
  have c := Int.mul_nonneg (b := step * v + 1) hx.1 (by omega)
  have d : x * (step * v + 1) ≤ 1000 * 2001 := Int.mul_le_mul hx.2 (by omega) (by omega) (by omega)
  omega
theorem wrap_of {z : Int} (h : -2000000000 ≤ z ∧ z ≤ 2000000000) : IntKind.i64.wrap z = z := by rw [IntKind.wrap_i64]; omega

end Go.Proofs.Ytigapnbpgbfbhac
