/- Contracts and facts of functions of this program, in build order. Conditions: those stated in each. -/
import Derived.Test.YtaehemmjemhgpaaPBDrawLs
import Derived.Test.YtaehemmjemhgpaaPBG1
set_option maxRecDepth 100000
set_option maxHeartbeats 16000000
namespace Go.Proofs.Ytaehemmjemhgpaa
open Go.RowKit
set_option linter.unusedSimpArgs false
set_option linter.unusedVariables false
theorem own_leL {w : World} {base n size c : Nat} {t : TypeId} {a : Option Addr} {xs : List Value} (h : w.ownsRow base t size (.slice a n c) n xs) : n ≤ c := by
  obtain ⟨b, k, e, hk⟩ := own_form h
  injection e with _ _ e3; omega
def DrawnLz (w : World) (e : Ending) (w' : World) : Prop := ∃ (a A : Option Addr) (cap capz : Nat) (hs : List Hd) (ls : List Lr), e = .returned (.tuple #[.slice a hs.length cap, .slice A ls.length capz]) ∧ hs.length ≤ 6 ∧ hs.length ≤ cap ∧ ls.length ≤ 3 ∧ IsHs w' a hs ∧ IsLs w' A ls ∧ ls.length ≤ capz ∧ Below w.heap.size w w'
theorem drawLz (a : Option Addr) (len cap : Nat) (zs : List Int) (w : World) (h : IsRow .u8 w a len cap zs) :
    Calls Try.prog 17 #[.slice a len cap] w (DrawnLz w) := by
  go_enter Try.func17, Try.ntmps17
  go_wp2_with fail
  refine (newReader_any a len cap zs _ h).mono ?_
  rintro e w1 ⟨rfl, hR1, hB1, hb1⟩
  have G1 := g_below (Below.refl w1.heap.size w1) (some w.heap.size)
  clear h
  go_wp2_with fail
  refine (anyHd w.heap.size _ _ hR1 (by omega) hb1).mono ?_
  rintro e w2 ⟨b, cp, hs, rfl, hl, hlc, hi, hblk, hR2, hG2⟩
  have hb2 := Nat.lt_of_lt_of_le hb1 hG2.size
  have G2 := g_trans G1 hG2
  clear hG2 hR1 G1
  go_wp2_with fail
  refine (someLz w.heap.size _ b cp w1.heap.size hs _ hR2 (by omega) hb2 hi (by omega) hblk hb1).mono ?_
  rintro e w3 ⟨v, ls, rfl, hls, hO, hR3, hG3⟩
  obtain ⟨bz, cz, rfl, hZ, hzb⟩ := own_lz hO
  have hb3 := Nat.lt_of_lt_of_le hb2 hG3.size
  have G3 := g_trans G2 hG3
  replace hi := hs_grown hi hblk hb1 hG3
  have hB := below_grown hB1 G3 (Nat.le_refl _)
  have hcz := own_leL hO
  clear hG3 hR2 G2 hO hR3 G3
  go_wp2_with fail
  go_returns
  exact ⟨b, bz, cp, cz, hs, ls, rfl, hl, hlc, hls, hi, hZ, hcz, hB⟩
end Go.Proofs.Ytaehemmjemhgpaa
