/- impl.reduced. Conditions: a denominator from 1 to 100000000. -/
import Derived.Test.YtjnhdabgbpkbhaaRedS
namespace Go.Proofs.Ytjnhdabgbpkbhaa
open Go.RowKit

end Go.Proofs.Ytjnhdabgbpkbhaa
