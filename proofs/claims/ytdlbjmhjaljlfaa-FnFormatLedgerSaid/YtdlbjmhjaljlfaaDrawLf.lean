/- What the laws on texts of ledgers draw. No condition but those stated. -/
import Derived.Test.YtdlbjmhjaljlfaaDrawHe
namespace Go.Proofs.Ytdlbjmhjaljlfaa
open Go.RowKit
set_option linter.unusedSimpArgs false
set_option linter.unusedVariables false
theorem g_madeH {w w1 w2 : World} (h : Below w.heap.size w w1) (hG : w1.grownBy w2 (some w.heap.size)) : Below w.heap.size w w2 := below_grown h hG (Nat.le_refl _)

def DrawnFormatLedger (w : World) (e : Ending) (w' : World) : Prop := ∃ (a : Option Addr) (cap : Nat) (hs : List Hd), e = .returned (.slice a hs.length cap) ∧ hs.length ≤ 6 ∧ hs.length ≤ cap ∧ IsHs w' a hs ∧ Below w.heap.size w w'
set_option maxHeartbeats 2000000 in
theorem drawFormatLedger (a : Option Addr) (len cap : Nat) (zs : List Int) (w : World) (h : IsRow .u8 w a len cap zs) :
    Calls Try.prog 24 #[.slice a len cap] w (DrawnFormatLedger w) := by
  go_enter Try.func24, Try.ntmps24
  go_wp2_with fail
  refine (newReader_any a len cap zs _ h).mono ?_
  rintro e w1 ⟨rfl, hR1, hB1, hb1⟩
  have G1 := g_below (Below.refl w1.heap.size w1) (some w.heap.size)
  clear h
  go_wp2_with fail
  refine (anyHd w.heap.size _ _ hR1 (by omega) hb1).mono ?_
  rintro e w2 ⟨b, cp, hs, rfl, hl, hlc, hi, hblk, hR2, hG2⟩
  have hb2 := Nat.lt_of_lt_of_le hb1 hG2.size
  have G2 := g_trans G1 hG2
  clear hG2 hR1 G1
  have hB := g_madeH hB1 G2
  clear G2 hR2
  go_wp2_with fail
  go_ret
  exact ⟨b, cp, hs, rfl, hl, hlc, hi, hB⟩
end Go.Proofs.Ytdlbjmhjaljlfaa
