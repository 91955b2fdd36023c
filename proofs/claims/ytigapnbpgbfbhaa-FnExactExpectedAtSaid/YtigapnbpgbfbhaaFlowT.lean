/- What comes to each node, by the model. Condition: at most 1048576 nodes. -/
import Derived.Test.YtigapnbpgbfbhaaFlowS
namespace Go.Proofs.Ytigapnbpgbfbhaa
open Go.RowKit
set_option linter.unusedSimpArgs false
set_option linter.unusedVariables false
end Go.Proofs.Ytigapnbpgbfbhaa
