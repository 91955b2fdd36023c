/- The laws' own copies and comparisons of fractions. No condition. -/
import Derived.Test.YtigapnbpgbfbhacGrA
namespace Go.Proofs.Ytigapnbpgbfbhac
open Go.RowKit

end Go.Proofs.Ytigapnbpgbfbhac
