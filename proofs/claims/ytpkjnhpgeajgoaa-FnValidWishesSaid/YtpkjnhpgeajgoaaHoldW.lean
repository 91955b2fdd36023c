/- spec.validLedger and spec.ValidLedger. Condition: at most 1048576 holdings. -/
import Derived.Test.YtpkjnhpgeajgoaaHoldS
import Derived.IntWalk
namespace Go.Proofs.Ytpkjnhpgeajgoaa
open Go.RowKit
set_option linter.unusedSimpArgs false

theorem keep3 {w w' : World} {p q r : Addr} {u v x : Value} (hb : Below w.heap.size w w') (h : w.cell? p = some u ∧ w.cell? q = some v ∧ w.cell? r = some x) : w'.cell? p = some u ∧ w'.cell? q = some v ∧ w'.cell? r = some x := ⟨cell_next hb h.1, cell_next hb h.2.1, cell_next hb h.2.2⟩
def LoopRel (w : World) (hs : List Hd) (k : Nat) (wr : World) : Prop := k ≤ hs.length ∧ (∀ j, j < k → okA hs j = true) ∧ (∀ j, j < k → okF hs j = true) ∧ Below w.heap.size w wr

end Go.Proofs.Ytpkjnhpgeajgoaa
