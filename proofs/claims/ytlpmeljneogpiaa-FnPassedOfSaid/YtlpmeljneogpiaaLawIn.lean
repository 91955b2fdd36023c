/- Helpers of the laws on lists of numbers: a number that is in it, lists that ascend. Condition: at most 1048576 numbers. -/
import Derived.Test.YtlpmeljneogpiaaGrA
namespace Go.Proofs.Ytlpmeljneogpiaa
open Go.RowKit
set_option linter.unusedSimpArgs false
set_option linter.unusedVariables false
end Go.Proofs.Ytlpmeljneogpiaa
