/- Marks in numbers from any number on. Condition: at most 1048576 numbers. -/
import Derived.Test.YtlpmeljneogpiaaGrA
namespace Go.Proofs.Ytlpmeljneogpiaa
open Go.RowKit
set_option linter.unusedSimpArgs false

end Go.Proofs.Ytlpmeljneogpiaa
