/- impl.reduced. Conditions: a denominator from 1 to 100000000. -/
import Derived.Test.YtbmpcggdkeakeaaRedS
namespace Go.Proofs.Ytbmpcggdkeakeaa
open Go.RowKit

end Go.Proofs.Ytbmpcggdkeakeaa
