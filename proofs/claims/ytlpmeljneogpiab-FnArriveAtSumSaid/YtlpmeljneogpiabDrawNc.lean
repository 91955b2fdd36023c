/- The draw of flows. Condition: at most 1048576 nodes. -/
import Derived.Test.YtlpmeljneogpiabDrawNb
import Derived.Test.YtlpmeljneogpiabGrA
import Derived.Test.YtlpmeljneogpiabFlowS
import Derived.Test.YtlpmeljneogpiabDrawFl
namespace Go.Proofs.Ytlpmeljneogpiab
open Go.RowKit
set_option linter.unusedSimpArgs false
set_option linter.unusedVariables false
def DrawnArriveAt (w : World) (e : Ending) (w' : World) : Prop := ∃ (a : Option Addr) (cap : Nat) (xs : List Nd) (i : Int) (b2 : Option Addr) (c2 : Nat) (zs : List Int), e = .returned (.tuple #[.slice a xs.length cap, .int .i64 i, .slice b2 zs.length c2]) ∧ 1 ≤ xs.length ∧ xs.length ≤ 10 ∧ xs.length ≤ cap ∧ IsNd w' a xs ∧ -1 ≤ i ∧ i ≤ 12 ∧ zs.length ≤ 20 ∧ (∀ z ∈ zs, -1 ≤ z ∧ z ≤ 501) ∧ IsInts w' b2 zs ∧ Below w.heap.size w w'
set_option maxHeartbeats 2000000 in
theorem drawArriveAt (a : Option Addr) (len cap : Nat) (zs : List Int) (w : World) (h : IsRow .u8 w a len cap zs) :
    Calls Try.prog 23 #[.slice a len cap] w (DrawnArriveAt w) := by
  go_enter Try.func23, Try.ntmps23
  go_wp2_with fail
  refine (newReader_any a len cap zs _ h).mono ?_
  rintro e w1 ⟨rfl, hR1, hB1, hb1⟩
  clear h
  go_wp2_with fail
  refine (atNd w.heap.size _ _ hR1 (by omega) hb1).mono ?_
  rintro e w2 ⟨b, cp, xs, i, rfl, l1, l10, hlc, hi, i0, i1, hblk, hR2, hG2⟩
  have hb2 := Nat.lt_of_lt_of_le hb1 hG2.size
  clear hR1
  go_wp2_with fail
  refine (someFl w.heap.size _ w2 hR2 (by omega) hb2).mono ?_
  rintro e w3 ⟨v, ys, rfl, hl, hz, hO, hR3, hG3⟩
  obtain ⟨b2, c2, rfl, hI2⟩ := hO.ints
  have HF : Hid (IsNd w3 b xs ∧ IsInts w3 b2 ys ∧ Below w.heap.size w w3) := ⟨nd_grown hi hblk hb1 hG3, hI2, g_madeN hB1 (g_trans hG2 hG3)⟩
  have HZ := Lib.hid hz
  clear hi hR2 hG2 hR3 hG3 hB1 hO hI2 hz
  go_wp2_with fail
  refine bodyPost_ret (v := .tuple #[.slice b xs.length cp, .int .i64 i, .slice b2 ys.length c2]) (by simp [results, Try.results23, go_sem]) rfl ?_
  exact ⟨b, cp, xs, i, b2, c2, ys, rfl, l1, l10, hlc, HF.out.1, i0, i1, hl, HZ.out, HF.out.2.1, HF.out.2.2⟩
end Go.Proofs.Ytlpmeljneogpiab
