/- spec.ValidWishes. Condition: at most 1048576 lists. -/
import Derived.Test.YtclpbbhhaclgbaaWishS
namespace Go.Proofs.Ytclpbbhhaclgbaa
open Go.RowKit
set_option linter.unusedSimpArgs false
set_option linter.unusedVariables false
theorem sVW2 (a : Option Addr) (cap : Nat) (rs : List (List Int)) (w : World) (h : IsRows w a rs) (hn : rs.length ≤ 1048576) :
    Calls Try.prog 12 #[.slice a rs.length cap] w fun e w' => e = .returned (.bool (wishB rs)) ∧ Below w.heap.size w w' := by
  have SV := svw a cap rs w h hn
  clear h
  go_enter Try.func12, Try.ntmps12
  go_wp2_with fail
  refine SV.mono ?_
  rintro e w1 ⟨rfl, B⟩
  go_wp2_with fail
  go_ret
  exact ⟨rfl, B⟩
end Go.Proofs.Ytclpbbhhaclgbaa
