/- Draws of duties; counts. Condition: the bytes as they came in. -/
import Derived.Test.YtigapnbpgbfbhabDrawW
import Derived.Test.YtigapnbpgbfbhabDutP
import Derived.Test.YtigapnbpgbfbhabGrA
namespace Go.Proofs.Ytigapnbpgbfbhab
open Go.RowKit
set_option linter.unusedSimpArgs false
set_option linter.unusedVariables false
theorem own_capI {w : World} {base n c : Nat} {b : Option Addr} {zs : List Int} (h : OwnI w base (.slice b n c) zs) : n ≤ c := by
  rcases h.2 with ⟨hv, hn⟩ | ⟨g', cap', cur, hv, hg, hb, hc, _⟩
  · injection hv with e1 e2 e3; omega
  · injection hv with e1 e2 e3; omega
theorem ints_takeD {w : World} {a : Option Addr} {zs : List Int} (h : IsInts w a zs) (m : Nat) : IsInts w a (zs.take m) := by
  rcases h with rfl | ⟨g, o, rfl, hc⟩
  · exact .inl (by simp)
  · refine .inr ⟨g, o, rfl, fun i hi => ?_⟩
    rw [List.length_take] at hi
    rw [hc i (by omega), List.getD_eq_getElem?_getD, List.getD_eq_getElem?_getD, List.getElem?_take_of_lt (by omega)]
set_option maxRecDepth 100000 in
set_option maxHeartbeats 8000000 in
theorem drawDu (a : Option Addr) (len cap : Nat) (zs : List Int) (w : World) (h : IsRow .u8 w a len cap zs) :
    Calls Try.prog 14 #[.slice a len cap] w (DrawnQ w) := by
  go_enter Try.func14, Try.ntmps14
  go_wp2_with fail
  refine (newReader_any a len cap zs _ h).mono ?_
  rintro e w1 ⟨rfl, hR1, hB1, hs1⟩
  go_wp2_with fail
  refine (one_lit w.heap.size 8 _ (-1) 501 [10, 7, 24, 40, 1, 0, 501, -1] _ w1 hR1 (by omega) hs1 rfl (by omega) (by omega) (by simp)).mono ?_
  rintro e w3 ⟨n, rfl, d0, d1, hR3, hG3⟩
  have hb3 := Nat.lt_of_lt_of_le hs1 hG3.size
  clear hR1
  go_wp2_with fail
  refine (anyW w.heap.size _ _ hR3 (by omega) hb3).mono ?_
  rintro e w4 ⟨b, cp, xs, rfl, hl, hi, hz, hR4, hG4⟩
  have hB4 := g_made hB1 (g_trans hG3 hG4)
  clear hR3 hR4 hG4 hG3
  go_wp2_with fail
  go_returns
  exact ⟨n, b, cp, xs, rfl, d0, d1, hl, hi, hz, hB4⟩
end Go.Proofs.Ytigapnbpgbfbhab
