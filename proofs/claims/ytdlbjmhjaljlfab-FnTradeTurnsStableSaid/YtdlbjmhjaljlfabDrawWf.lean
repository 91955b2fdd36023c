/- What the laws on trades draw. No condition but those stated. -/
import Derived.Test.YtdlbjmhjaljlfabDrawWd
import Derived.Test.YtdlbjmhjaljlfabRankI
namespace Go.Proofs.Ytdlbjmhjaljlfab
open Go.RowKit
set_option linter.unusedSimpArgs false
set_option linter.unusedVariables false
theorem g_madeW {w w1 w2 : World} (h : Below w.heap.size w w1) (hG : w1.grownBy w2 (some w.heap.size)) : Below w.heap.size w w2 := below_grown h hG (Nat.le_refl _)
def DrawnTT (w : World) (e : Ending) (w' : World) : Prop := ∃ (a : Option Addr) (cap : Nat) (rs : List (List Int)), e = .returned (.slice a rs.length cap) ∧ rs.length ≤ 8 ∧ rs.length ≤ cap ∧ IsRows w' a rs ∧ Below w.heap.size w w'
set_option maxHeartbeats 2000000 in
theorem drawTradeTurns (a : Option Addr) (len cap : Nat) (zs : List Int) (w : World) (h : IsRow .u8 w a len cap zs) :
    Calls Try.prog 15 #[.slice a len cap] w (DrawnTT w) := by
  go_enter Try.func15, Try.ntmps15
  go_wp2_with fail
  refine (newReader_any a len cap zs _ h).mono ?_
  rintro e w1 ⟨rfl, hR1, hB1, hb1⟩
  clear h
  go_wp2_with fail
  refine (anyWs w.heap.size _ _ hR1 (by omega) hb1).mono ?_
  rintro e w2 ⟨v, n, rv, rfl, n8, hO, hrl, hrows, hR2, hG2⟩
  have hB := g_madeW hB1 hG2
  obtain ⟨b, cp, rs, rfl, hl, hc, hi⟩ := rows_of hO hrl hrows
  have HI := Lib.hid hi
  clear hO hrows hR2 hG2 hi
  go_wp2_with fail
  go_ret
  exact ⟨b, cp, rs, by rw [hl]; rfl, by omega, hc, HI.out, hB⟩
end Go.Proofs.Ytdlbjmhjaljlfab
