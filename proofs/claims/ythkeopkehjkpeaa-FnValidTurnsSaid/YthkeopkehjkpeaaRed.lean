/- impl.reduced. Conditions: a denominator from 1 to 100000000. -/
import Derived.Test.YthkeopkehjkpeaaRedS
namespace Go.Proofs.Ythkeopkehjkpeaa
open Go.RowKit

end Go.Proofs.Ythkeopkehjkpeaa
