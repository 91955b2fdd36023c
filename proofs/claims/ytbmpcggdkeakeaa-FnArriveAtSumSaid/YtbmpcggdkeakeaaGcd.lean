/- The two loops for the greatest common divisor return it. Condition: both numbers are at least 0. -/
import Derived.Test.YtbmpcggdkeakeaaBase
import Derived.Test.YtbmpcggdkeakeaaPlain
namespace Go.Proofs.Ytbmpcggdkeakeaa
open Go.RowKit


end Go.Proofs.Ytbmpcggdkeakeaa
