/- Copies of holdings and a share that is set, by impl. Condition: at most 1048576 holdings. -/
import Derived.Test.YtaehemmjemhgpaaPCG0
set_option maxRecDepth 100000
set_option maxHeartbeats 16000000
namespace Go.Proofs.Ytaehemmjemhgpaa
open Go.RowKit

def NewH (w : World) (hs : List Hd) (e : Ending) (w' : World) : Prop := ∃ v, e = .returned v ∧ OwnH w' w.heap.size v hs ∧ Below w.heap.size w w'

theorem own_base {w : World} {base n : Nat} {v : Value} {xs : List Value} (h : w.ownsRow (base + 1) 91 3 v n xs) : w.ownsRow base 91 3 v n xs := by
 refine ⟨h.1, ?_⟩
 rcases h.2 with h | ⟨g, cap, cur, a, b, c⟩
 ·exact .inl h
 ·exact .inr ⟨g, cap, cur, a, by omega, c⟩
end Go.Proofs.Ytaehemmjemhgpaa
