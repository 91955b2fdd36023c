/- Helpers of the laws on lists of numbers: a number that is in it, lists that ascend. Condition: at most 1048576 numbers. -/
import Derived.Test.YtlpmeljneogpiabGrA
namespace Go.Proofs.Ytlpmeljneogpiab
open Go.RowKit
set_option linter.unusedSimpArgs false
set_option linter.unusedVariables false
end Go.Proofs.Ytlpmeljneogpiab
