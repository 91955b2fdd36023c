/- The two loops for the greatest common divisor return it. Condition: both numbers are at least 0. -/
import Derived.Test.YtpkjnhpgeajgoaaBase
import Derived.Test.YtpkjnhpgeajgoaaPlain
namespace Go.Proofs.Ytpkjnhpgeajgoaa
open Go.RowKit


end Go.Proofs.Ytpkjnhpgeajgoaa
