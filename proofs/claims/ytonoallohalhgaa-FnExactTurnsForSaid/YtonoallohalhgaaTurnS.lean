/- Rotations that are read, by the model: hours, valid rotations, whose turn it is. Condition: at most 1048576 turns. -/
import Derived.Test.YtonoallohalhgaaTurnI
namespace Go.Proofs.Ytonoallohalhgaa
open Go.RowKit
set_option linter.unusedSimpArgs false
set_option linter.unusedVariables false

theorem okT_bd {ts : List Tn} {k : Nat} (hk : k ≤ ts.length) (hn : ts.length ≤ 1048576) (h : ∀ j, j < k → okT ts j = true) : 0 ≤ sumT (ts.take k) ∧ sumT (ts.take k) ≤ 352321536 := by
  have := sumT_bd k hk h; omega
end Go.Proofs.Ytonoallohalhgaa
