/- The laws' own copies and comparisons of fractions. No condition. -/
import Derived.Test.YtjnhdabgbpkbhaaValid
namespace Go.Proofs.Ytjnhdabgbpkbhaa
open Go.RowKit

end Go.Proofs.Ytjnhdabgbpkbhaa
