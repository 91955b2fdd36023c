/- Claims by the model: halves first. Condition: at most 1048576 numbers. -/
import Derived.Test.YtojkgabkiagjdacClmS
import Derived.Test.YtojkgabkiagjdacClmK
namespace Go.Proofs.Ytojkgabkiagjdac
open Go.RowKit
set_option linter.unusedSimpArgs false
set_option linter.unusedVariables false
theorem take_next {l : List Int} {k : Nat} (h : k < l.length) : l.take (k + 1) = l.take k ++ [l.getD k 0] := by
  rw [List.take_succ_eq_append_getElem h, List.getD_eq_getElem?_getD, List.getElem?_eq_getElem h]; rfl
end Go.Proofs.Ytojkgabkiagjdac
