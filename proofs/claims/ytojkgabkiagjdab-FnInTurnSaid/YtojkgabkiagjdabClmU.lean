/- Claims by the program: all orders of turns. Condition: at most 1048576 numbers. -/
import Derived.Test.YtojkgabkiagjdabClmR
import Derived.Test.YtojkgabkiagjdabClmN
import Derived.Test.YtojkgabkiagjdabClmK
namespace Go.Proofs.Ytojkgabkiagjdab
open Go.RowKit
set_option linter.unusedSimpArgs false
set_option linter.unusedVariables false
theorem av_no1 {n : Int} {cs : List Int} (h : vcB n cs = false) : avB n cs = false := by unfold avB; rw [h]; rfl
theorem av_no2 {n : Int} {cs : List Int} (h : 5 < cs.length) : avB n cs = false := by unfold avB; rw [decide_eq_false (by omega : ¬ cs.length ≤ 5)]; simp
theorem av_yes {n : Int} {cs : List Int} (h : vcB n cs = true) (h2 : cs.length ≤ 5) : avB n cs = true := by unfold avB; rw [h, decide_eq_true h2]; rfl
theorem allV_len {n : Int} {cs : List Int} (h : avB n cs = true) : (allV n cs).length = cs.length := by rw [allV_yes h, totV_len]
end Go.Proofs.Ytojkgabkiagjdab
