/- The laws' own copies and comparisons of fractions. No condition. -/
import Derived.Test.YtigapnbpgbfbhaaGrA
namespace Go.Proofs.Ytigapnbpgbfbhaa
open Go.RowKit

end Go.Proofs.Ytigapnbpgbfbhaa
