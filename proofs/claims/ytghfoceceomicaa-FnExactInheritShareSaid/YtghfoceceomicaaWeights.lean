/- ValidWeights, impl's and spec's. Condition: at most 1048576 numbers. -/
import Derived.Test.YtghfoceceomicaaInts
namespace Go.Proofs.Ytghfoceceomicaa
open Go.RowKit

/-- valid weights -/
def vwB (zs : List Int) : Bool := allB zs 1000 && decide (zs.length ≤ 12) && decide (0 < zs.sum)
theorem vw_no1 {zs : List Int} (h : allB zs 1000 = false) : vwB zs = false := by unfold vwB; rw [h]; rfl
theorem vw_no2 {zs : List Int} (h : 12 < zs.length) : vwB zs = false := by unfold vwB; rw [decide_eq_false (by omega : ¬ zs.length ≤ 12)]; simp
theorem vw_sum {zs : List Int} (h : allB zs 1000 = true) (h2 : zs.length ≤ 12) : vwB zs = decide (0 < zs.sum) := by unfold vwB; rw [h, decide_eq_true h2]; rfl
theorem all_bd {zs : List Int} {most : Int} (h : allB zs most = true) (hm : most ≤ 1000000) : ∀ z ∈ zs, -1000000 ≤ z ∧ z ≤ 1000000 := fun z hz => by
  have := (allB_iff zs most).1 h z hz; omega

theorem vw_is {ws : List Int} (h : vwB ws = true) : allB ws 1000 = true ∧ ws.length ≤ 12 ∧ 0 < ws.sum := by
  unfold vwB at h; simp only [Bool.and_eq_true, decide_eq_true_eq] at h; exact ⟨h.1.1, h.1.2, h.2⟩

end Go.Proofs.Ytghfoceceomicaa
