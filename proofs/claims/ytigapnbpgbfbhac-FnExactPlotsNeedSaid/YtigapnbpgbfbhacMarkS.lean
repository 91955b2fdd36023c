/- Marks in numbers from any number on. Condition: at most 1048576 numbers. -/
import Derived.Test.YtigapnbpgbfbhacGrA
namespace Go.Proofs.Ytigapnbpgbfbhac
open Go.RowKit
set_option linter.unusedSimpArgs false

end Go.Proofs.Ytigapnbpgbfbhac
