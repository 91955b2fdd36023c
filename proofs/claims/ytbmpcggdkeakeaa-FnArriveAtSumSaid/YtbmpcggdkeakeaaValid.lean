/- impl.ValidFrac and spec.ValidFrac answer whether a fraction is valid; no condition. -/
import Derived.Test.YtbmpcggdkeakeaaGcd
import Derived.Handy
namespace Go.Proofs.Ytbmpcggdkeakeaa
open Go.RowKit

theorem vf_no {n d : Int} (h : ¬ (1 ≤ d ∧ d ≤ 10000 ∧ 0 ≤ n ∧ n ≤ d)) : Wsh.vfB n d = false := by
  rw [Bool.eq_false_iff]; intro k; rw [Wsh.vfB_iff] at k; exact h ⟨k.1, k.2.1, k.2.2.1, k.2.2.2.1⟩
theorem vf_gcd {n d : Int} (h : 1 ≤ d ∧ d ≤ 10000 ∧ 0 ≤ n ∧ n ≤ d) : ((Int.gcd n d : Int) == 1) = Wsh.vfB n d := by
  rw [Bool.eq_iff_iff, Wsh.vfB_iff]; simp; omega

end Go.Proofs.Ytbmpcggdkeakeaa
