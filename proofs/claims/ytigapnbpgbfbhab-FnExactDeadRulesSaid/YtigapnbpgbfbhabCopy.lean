/- The laws' own copies and comparisons of fractions. No condition. -/
import Derived.Test.YtigapnbpgbfbhabGrA
namespace Go.Proofs.Ytigapnbpgbfbhab
open Go.RowKit

end Go.Proofs.Ytigapnbpgbfbhab
