/- impl.ShareOf and spec.ShareOf. Condition: at most 1048576 holdings. -/
import Derived.Test.YtpkjnhpgeajgoaaShare
import Derived.Test.YtpkjnhpgeajgoaaHoldW
namespace Go.Proofs.Ytpkjnhpgeajgoaa
open Go.RowKit

def shV (hs : List Hd) (o : Int) : Int × Int := if vlR hs then shR hs o else (0, 0)
def ShareO (w : World) (hs : List Hd) (o : Int) (e : Ending) (w' : World) : Prop := e = .returned (.agg #[.int .i64 (shV hs o).1, .int .i64 (shV hs o).2]) ∧ Below w.heap.size w w'
end Go.Proofs.Ytpkjnhpgeajgoaa
