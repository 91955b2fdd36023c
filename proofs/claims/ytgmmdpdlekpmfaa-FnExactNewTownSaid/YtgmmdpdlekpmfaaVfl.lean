/- Flows that are valid. Condition: at most 1048576 numbers. -/
import Derived.Test.YtgmmdpdlekpmfaaGrA
namespace Go.Proofs.Ytgmmdpdlekpmfaa
open Go.RowKit
set_option linter.unusedSimpArgs false
set_option linter.unusedVariables false
end Go.Proofs.Ytgmmdpdlekpmfaa
