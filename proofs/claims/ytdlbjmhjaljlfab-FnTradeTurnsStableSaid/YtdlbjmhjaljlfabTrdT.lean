/- spec.TradeTurns. Condition: at most 1048576 lists. -/
import Derived.Test.YtdlbjmhjaljlfabTrdS
namespace Go.Proofs.Ytdlbjmhjaljlfab
open Go.RowKit
set_option linter.unusedSimpArgs false
set_option linter.unusedVariables false
set_option maxHeartbeats 2000000 in
theorem sTrade (a : Option Addr) (ca : Nat) (rs : List (List Int)) (w : World) (h : IsRows w a rs) (hn : rs.length ≤ 1048576) :
    Calls Try.prog 18 #[.slice a rs.length ca] w (OutI w (tradeV rs)) := by
  have SV := svw a ca rs w h hn
  cases hv : wishB rs with
  | false =>
    rw [hv] at SV
    rw [tr_no hv]
    clear h hv
    go_enter Try.func18, Try.ntmps18
    go_wp2_with fail
    refine SV.mono ?_
    rintro e w1 ⟨rfl, B⟩
    go_wp2_with fail
    go_ret
    exact outI_nil B
  | true =>
    rw [hv] at SV
    have HS : Hid (∀ W, Below w.heap.size w W → Calls Try.prog 44 #[.slice a rs.length ca] W (OutI W (tradeV rs))) := fun W hW => strade a ca rs W (rows_below h hW) hv
    generalize tradeV rs = R at *
    clear h hv
    go_enter Try.func18, Try.ntmps18
    go_wp2_with fail
    refine SV.mono ?_
    rintro e w1 ⟨rfl, B⟩
    go_wp2_with fail
    refine (HS.out _ B).mono ?_
    rintro e w2 ⟨v, rfl, O, C⟩
    have HF : Hid (OwnI w2 w.heap.size v R ∧ Below w.heap.size w w2) := ⟨own_lower O B.size, bel_tr B C⟩
    clear O B C SV
    go_wp2_with fail
    go_ret
    exact ⟨v, rfl, HF.out.1, HF.out.2⟩
end Go.Proofs.Ytdlbjmhjaljlfab
