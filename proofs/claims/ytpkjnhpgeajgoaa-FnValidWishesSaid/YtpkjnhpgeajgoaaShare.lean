/- The share of an owner, by impl.shareIn and spec.shareOf. Condition: at most 1048576 holdings. -/
import Derived.Test.YtpkjnhpgeajgoaaHoldV
namespace Go.Proofs.Ytpkjnhpgeajgoaa
open Go.RowKit

def ShareV (w : World) (hs : List Hd) (o : Int) (e : Ending) (w' : World) : Prop := e = .returned (.agg #[.int .i64 (shR hs o).1, .int .i64 (shR hs o).2]) ∧ Below w.heap.size w w'
theorem shR_hit {hs : List Hd} {o : Int} {k : Nat} (hk : k < hs.length) (h : ∀ j, j < k → (hs.getD j hd0).1 ≠ o) {n d : Int} (he : hs.getD k hd0 = (o, n, d)) : shR hs o = (n, d) := by
  rw [shR_at hk h (by rw [he]), he]

end Go.Proofs.Ytpkjnhpgeajgoaa
