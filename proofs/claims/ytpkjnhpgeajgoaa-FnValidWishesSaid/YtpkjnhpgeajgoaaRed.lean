/- impl.reduced. Conditions: a denominator from 1 to 100000000. -/
import Derived.Test.YtpkjnhpgeajgoaaRedS
namespace Go.Proofs.Ytpkjnhpgeajgoaa
open Go.RowKit

end Go.Proofs.Ytpkjnhpgeajgoaa
