/- The draws of the laws on channels. Condition: at most 1048576 nodes. -/
import Derived.Test.YtbmpcggdkeakeaaDrawNa
namespace Go.Proofs.Ytbmpcggdkeakeaa
open Go.RowKit
set_option linter.unusedSimpArgs false
set_option linter.unusedVariables false
theorem g_madeN {w w1 w2 : World} (h : Below w.heap.size w w1) (hG : w1.grownBy w2 (some w.heap.size)) : Below w.heap.size w w2 := below_grown h hG (Nat.le_refl _)
def AtNd (w : World) (b : Nat) (P : Int) (e : Ending) (w' : World) : Prop := ∃ (a : Option Addr) (cap : Nat) (xs : List Nd) (i : Int), e = .returned (.tuple #[.slice a xs.length cap, .int .i64 i]) ∧ 1 ≤ xs.length ∧ xs.length ≤ 10 ∧ xs.length ≤ cap ∧ IsNd w' a xs ∧ -1 ≤ i ∧ i ≤ 12 ∧ (∀ ad, a = some ad → w.heap.size ≤ ad.block) ∧ Rd w' b (P + 65) ∧ w.grownBy w' (some b)
set_option maxHeartbeats 4000000 in
theorem atNd (b : Nat) (P : Int) (w : World) (h : Rd w b P) (hP : P ≤ 70000) (hb : b < w.heap.size) :
    Calls Try.prog 61 #[.pointer (some ⟨b, 0, none⟩)] w (AtNd w b P) := by
  go_enter Try.func61, Try.ntmps61
  go_wp2_with fail
  refine (anyNd b P _ h hP hb).mono ?_
  rintro e w1 ⟨a, cp, xs, rfl, k1, k10, hcp, hi, hblk, hR1, hG1⟩
  have hb1 := Nat.lt_of_lt_of_le hb hG1.size
  clear h
  go_wp2_with fail
  refine (pick_any b _ 8 _ hR1 (by omega)).mono ?_
  rintro e w2 ⟨p, rfl, hp, hR2, hG2⟩
  have hb2 := Nat.lt_of_lt_of_le hb1 hG2.size
  have G2 := g_trans hG1 hG2
  replace hi := nd_grown hi hblk hb hG2
  clear hp hG1 hG2 hR1
  by_cases p0 : p = 0
  · subst p0
    go_wp2_with fail
    refine (one_lit b 2 _ (-1) 12 [-1, 12] _ w2 hR2 (by omega) hb2 rfl (by omega) (by omega) (by simp)).mono ?_
    rintro e w3 ⟨i, rfl, i0, i1, hR3, hG3⟩
    have HF : Hid (IsNd w3 a xs ∧ Rd w3 b (P + 65) ∧ w.grownBy w3 (some b)) := ⟨nd_grown hi hblk hb hG3, rd_up hR3 (by omega), g_trans G2 hG3⟩
    clear hi hR3 hG3 G2 hR2
    go_wp2_with fail
    go_returns
    exact ⟨a, cp, xs, i, rfl, k1, k10, hcp, HF.out.1, i0, i1, hblk, HF.out.2.1, HF.out.2.2⟩
  · have e0 : ((p : Int) == 0) = false := by simp; omega
    have e1 : (p == 0) = false := by simpa using p0
    go_wp2_with fail
    refine (pick_any b _ (xs.length : Int) _ hR2 (by omega)).mono ?_
    rintro e w3 ⟨i, rfl, hi3, hR3, hG3⟩
    have HF : Hid (IsNd w3 a xs ∧ Rd w3 b (P + 65) ∧ w.grownBy w3 (some b)) := ⟨nd_grown hi hblk hb hG3, rd_up hR3 (by omega), g_trans G2 hG3⟩
    have i1 : (i : Int) ≤ 12 := by omega
    clear hi hR3 hG3 G2 hR2 hi3
    go_wp2_with fail
    go_returns
    exact ⟨a, cp, xs, (i : Int), rfl, k1, k10, hcp, HF.out.1, by omega, i1, hblk, HF.out.2.1, HF.out.2.2⟩
def DrawnValidNodes (w : World) (e : Ending) (w' : World) : Prop := ∃ (a : Option Addr) (cap : Nat) (xs : List Nd), e = .returned (.slice a xs.length cap) ∧ 1 ≤ xs.length ∧ xs.length ≤ 10 ∧ xs.length ≤ cap ∧ IsNd w' a xs ∧ Below w.heap.size w w'
set_option maxHeartbeats 2000000 in
theorem drawValidNodes (a : Option Addr) (len cap : Nat) (zs : List Int) (w : World) (h : IsRow .u8 w a len cap zs) :
    Calls Try.prog 18 #[.slice a len cap] w (DrawnValidNodes w) := by
  go_enter Try.func18, Try.ntmps18
  go_wp2_with fail
  refine (newReader_any a len cap zs _ h).mono ?_
  rintro e w1 ⟨rfl, hR1, hB1, hb1⟩
  clear h
  go_wp2_with fail
  refine (anyNd w.heap.size _ _ hR1 (by omega) hb1).mono ?_
  rintro e w2 ⟨b, cp, xs, rfl, l1, l10, hlc, hi, hblk, hR2, hG2⟩
  have HF : Hid (IsNd w2 b xs ∧ Below w.heap.size w w2) := ⟨hi, g_madeN hB1 hG2⟩
  clear hi hR2 hG2 hR1 hB1
  go_wp2_with fail
  go_ret
  exact ⟨b, cp, xs, rfl, l1, l10, hlc, HF.out.1, HF.out.2⟩
def DrawnLeavesOf (w : World) (e : Ending) (w' : World) : Prop := ∃ (a : Option Addr) (cap : Nat) (xs : List Nd), e = .returned (.slice a xs.length cap) ∧ 1 ≤ xs.length ∧ xs.length ≤ 10 ∧ xs.length ≤ cap ∧ IsNd w' a xs ∧ Below w.heap.size w w'
set_option maxHeartbeats 2000000 in
theorem drawLeavesOf (a : Option Addr) (len cap : Nat) (zs : List Int) (w : World) (h : IsRow .u8 w a len cap zs) :
    Calls Try.prog 33 #[.slice a len cap] w (DrawnLeavesOf w) := by
  go_enter Try.func33, Try.ntmps33
  go_wp2_with fail
  refine (newReader_any a len cap zs _ h).mono ?_
  rintro e w1 ⟨rfl, hR1, hB1, hb1⟩
  clear h
  go_wp2_with fail
  refine (anyNd w.heap.size _ _ hR1 (by omega) hb1).mono ?_
  rintro e w2 ⟨b, cp, xs, rfl, l1, l10, hlc, hi, hblk, hR2, hG2⟩
  have HF : Hid (IsNd w2 b xs ∧ Below w.heap.size w w2) := ⟨hi, g_madeN hB1 hG2⟩
  clear hi hR2 hG2 hR1 hB1
  go_wp2_with fail
  go_ret
  exact ⟨b, cp, xs, rfl, l1, l10, hlc, HF.out.1, HF.out.2⟩
def DrawnKidsOf (w : World) (e : Ending) (w' : World) : Prop := ∃ (a : Option Addr) (cap : Nat) (xs : List Nd) (i : Int), e = .returned (.tuple #[.slice a xs.length cap, .int .i64 i]) ∧ 1 ≤ xs.length ∧ xs.length ≤ 10 ∧ xs.length ≤ cap ∧ IsNd w' a xs ∧ -1 ≤ i ∧ i ≤ 12 ∧ Below w.heap.size w w'
set_option maxHeartbeats 2000000 in
theorem drawKidsOf (a : Option Addr) (len cap : Nat) (zs : List Int) (w : World) (h : IsRow .u8 w a len cap zs) :
    Calls Try.prog 21 #[.slice a len cap] w (DrawnKidsOf w) := by
  go_enter Try.func21, Try.ntmps21
  go_wp2_with fail
  refine (newReader_any a len cap zs _ h).mono ?_
  rintro e w1 ⟨rfl, hR1, hB1, hb1⟩
  clear h
  go_wp2_with fail
  refine (atNd w.heap.size _ _ hR1 (by omega) hb1).mono ?_
  rintro e w2 ⟨b, cp, xs, i, rfl, l1, l10, hlc, hi, i0, i1, hblk, hR2, hG2⟩
  have HF : Hid (IsNd w2 b xs ∧ Below w.heap.size w w2) := ⟨hi, g_madeN hB1 hG2⟩
  clear hi hR2 hG2 hR1 hB1
  go_wp2_with fail
  go_returns
  exact ⟨b, cp, xs, i, rfl, l1, l10, hlc, HF.out.1, i0, i1, HF.out.2⟩
def DrawnPathTo (w : World) (e : Ending) (w' : World) : Prop := ∃ (a : Option Addr) (cap : Nat) (xs : List Nd) (i : Int), e = .returned (.tuple #[.slice a xs.length cap, .int .i64 i]) ∧ 1 ≤ xs.length ∧ xs.length ≤ 10 ∧ xs.length ≤ cap ∧ IsNd w' a xs ∧ -1 ≤ i ∧ i ≤ 12 ∧ Below w.heap.size w w'
set_option maxHeartbeats 2000000 in
theorem drawPathTo (a : Option Addr) (len cap : Nat) (zs : List Int) (w : World) (h : IsRow .u8 w a len cap zs) :
    Calls Try.prog 26 #[.slice a len cap] w (DrawnPathTo w) := by
  go_enter Try.func26, Try.ntmps26
  go_wp2_with fail
  refine (newReader_any a len cap zs _ h).mono ?_
  rintro e w1 ⟨rfl, hR1, hB1, hb1⟩
  clear h
  go_wp2_with fail
  refine (atNd w.heap.size _ _ hR1 (by omega) hb1).mono ?_
  rintro e w2 ⟨b, cp, xs, i, rfl, l1, l10, hlc, hi, i0, i1, hblk, hR2, hG2⟩
  have HF : Hid (IsNd w2 b xs ∧ Below w.heap.size w w2) := ⟨hi, g_madeN hB1 hG2⟩
  clear hi hR2 hG2 hR1 hB1
  go_wp2_with fail
  go_returns
  exact ⟨b, cp, xs, i, rfl, l1, l10, hlc, HF.out.1, i0, i1, HF.out.2⟩
def DrawnDelayTo (w : World) (e : Ending) (w' : World) : Prop := ∃ (a : Option Addr) (cap : Nat) (xs : List Nd) (i : Int), e = .returned (.tuple #[.slice a xs.length cap, .int .i64 i]) ∧ 1 ≤ xs.length ∧ xs.length ≤ 10 ∧ xs.length ≤ cap ∧ IsNd w' a xs ∧ -1 ≤ i ∧ i ≤ 12 ∧ Below w.heap.size w w'
set_option maxHeartbeats 2000000 in
theorem drawDelayTo (a : Option Addr) (len cap : Nat) (zs : List Int) (w : World) (h : IsRow .u8 w a len cap zs) :
    Calls Try.prog 31 #[.slice a len cap] w (DrawnDelayTo w) := by
  go_enter Try.func31, Try.ntmps31
  go_wp2_with fail
  refine (newReader_any a len cap zs _ h).mono ?_
  rintro e w1 ⟨rfl, hR1, hB1, hb1⟩
  clear h
  go_wp2_with fail
  refine (atNd w.heap.size _ _ hR1 (by omega) hb1).mono ?_
  rintro e w2 ⟨b, cp, xs, i, rfl, l1, l10, hlc, hi, i0, i1, hblk, hR2, hG2⟩
  have HF : Hid (IsNd w2 b xs ∧ Below w.heap.size w w2) := ⟨hi, g_madeN hB1 hG2⟩
  clear hi hR2 hG2 hR1 hB1
  go_wp2_with fail
  go_returns
  exact ⟨b, cp, xs, i, rfl, l1, l10, hlc, HF.out.1, i0, i1, HF.out.2⟩
def DrawnFlowsOf (w : World) (e : Ending) (w' : World) : Prop := ∃ (a : Option Addr) (cap : Nat) (xs : List Nd) (i : Int), e = .returned (.tuple #[.slice a xs.length cap, .int .i64 i]) ∧ 1 ≤ xs.length ∧ xs.length ≤ 10 ∧ xs.length ≤ cap ∧ IsNd w' a xs ∧ -1 ≤ i ∧ i ≤ 501 ∧ Below w.heap.size w w'
set_option maxHeartbeats 2000000 in
theorem drawFlowsOf (a : Option Addr) (len cap : Nat) (zs : List Int) (w : World) (h : IsRow .u8 w a len cap zs) :
    Calls Try.prog 36 #[.slice a len cap] w (DrawnFlowsOf w) := by
  go_enter Try.func36, Try.ntmps36
  go_wp2_with fail
  refine (newReader_any a len cap zs _ h).mono ?_
  rintro e w1 ⟨rfl, hR1, hB1, hb1⟩
  clear h
  go_wp2_with fail
  refine (anyNd w.heap.size _ _ hR1 (by omega) hb1).mono ?_
  rintro e w2 ⟨b, cp, xs, rfl, l1, l10, hlc, hi, hblk, hR2, hG2⟩
  have hb2 := Nat.lt_of_lt_of_le hb1 hG2.size
  clear hR1
  go_wp2_with fail
  refine (pick_any w.heap.size _ 200 _ hR2 (by omega)).mono ?_
  rintro e w3 ⟨p, rfl, hp, hR3, hG3⟩
  have hb3 := Nat.lt_of_lt_of_le hb2 hG3.size
  have p1 : (p : Int) ≤ 200 := by omega
  replace hi := nd_grown hi hblk hb1 hG3
  have G3 := g_trans hG2 hG3
  clear hp hR2 hG2 hG3
  go_wp2_with fail
  refine (one_lit w.heap.size 8 _ (-1) 501 [60, 30, 100, (p : Int), 0, 500, 501, -1] _ w3 hR3 (by omega) hb3 rfl (by omega) (by omega) (by simp; omega)).mono ?_
  rintro e w4 ⟨i, rfl, i0, i1, hR4, hG4⟩
  have HF : Hid (IsNd w4 b xs ∧ Below w.heap.size w w4) := ⟨nd_grown hi hblk hb1 hG4, g_madeN hB1 (g_trans G3 hG4)⟩
  clear hi hR3 hR4 hG4 G3 hB1
  go_wp2_with fail
  go_returns
  exact ⟨b, cp, xs, i, rfl, l1, l10, hlc, HF.out.1, i0, i1, HF.out.2⟩
theorem drawPassedOf (a : Option Addr) (len cap : Nat) (zs : List Int) (w : World) (h : IsRow .u8 w a len cap zs) :
    Calls Try.prog 43 #[.slice a len cap] w (DrawnFlowsOf w) := by
  go_enter Try.func43, Try.ntmps43
  go_wp2_with fail
  refine (drawFlowsOf a len cap zs _ h).mono ?_
  rintro e w1 ⟨b, cp, xs, i, rfl, r⟩
  go_wp2_with fail
  go_returns
  exact ⟨b, cp, xs, i, rfl, r⟩
theorem drawLostIn (a : Option Addr) (len cap : Nat) (zs : List Int) (w : World) (h : IsRow .u8 w a len cap zs) :
    Calls Try.prog 40 #[.slice a len cap] w (DrawnFlowsOf w) := by
  go_enter Try.func40, Try.ntmps40
  go_wp2_with fail
  refine (drawFlowsOf a len cap zs _ h).mono ?_
  rintro e w1 ⟨b, cp, xs, i, rfl, r⟩
  go_wp2_with fail
  go_returns
  exact ⟨b, cp, xs, i, rfl, r⟩
def DrawnNeedFor (w : World) (e : Ending) (w' : World) : Prop := ∃ (a : Option Addr) (cap : Nat) (xs : List Nd) (i j : Int), e = .returned (.tuple #[.slice a xs.length cap, .int .i64 i, .int .i64 j]) ∧ 1 ≤ xs.length ∧ xs.length ≤ 10 ∧ xs.length ≤ cap ∧ IsNd w' a xs ∧ -1 ≤ i ∧ i ≤ 12 ∧ 0 ≤ j ∧ j ≤ 501 ∧ Below w.heap.size w w'
set_option maxHeartbeats 2000000 in
theorem drawNeedFor (a : Option Addr) (len cap : Nat) (zs : List Int) (w : World) (h : IsRow .u8 w a len cap zs) :
    Calls Try.prog 45 #[.slice a len cap] w (DrawnNeedFor w) := by
  go_enter Try.func45, Try.ntmps45
  go_wp2_with fail
  refine (newReader_any a len cap zs _ h).mono ?_
  rintro e w1 ⟨rfl, hR1, hB1, hb1⟩
  clear h
  go_wp2_with fail
  refine (atNd w.heap.size _ _ hR1 (by omega) hb1).mono ?_
  rintro e w2 ⟨b, cp, xs, i, rfl, l1, l10, hlc, hi, i0, i1, hblk, hR2, hG2⟩
  have hb2 := Nat.lt_of_lt_of_le hb1 hG2.size
  clear hR1
  go_wp2_with fail
  refine (one_lit w.heap.size 6 _ (0) 501 [5, 10, 1, 0, 40, 501] _ w2 hR2 (by omega) hb2 rfl (by omega) (by omega) (by simp)).mono ?_
  rintro e w3 ⟨j, rfl, j0, j1, hR3, hG3⟩
  have HF : Hid (IsNd w3 b xs ∧ Below w.heap.size w w3) := ⟨nd_grown hi hblk hb1 hG3, g_madeN hB1 (g_trans hG2 hG3)⟩
  clear hi hR2 hG2 hR3 hG3 hB1
  go_wp2_with fail
  go_returns
  exact ⟨b, cp, xs, i, j, rfl, l1, l10, hlc, HF.out.1, i0, i1, j0, j1, HF.out.2⟩
def DrawnSetGate (w : World) (e : Ending) (w' : World) : Prop := ∃ (a : Option Addr) (cap : Nat) (xs : List Nd) (i j : Int), e = .returned (.tuple #[.slice a xs.length cap, .int .i64 i, .int .i64 j]) ∧ 1 ≤ xs.length ∧ xs.length ≤ 10 ∧ xs.length ≤ cap ∧ IsNd w' a xs ∧ -1 ≤ i ∧ i ≤ 12 ∧ -1 ≤ j ∧ j ≤ 1001 ∧ Below w.heap.size w w'
set_option maxHeartbeats 2000000 in
theorem drawSetGate (a : Option Addr) (len cap : Nat) (zs : List Int) (w : World) (h : IsRow .u8 w a len cap zs) :
    Calls Try.prog 48 #[.slice a len cap] w (DrawnSetGate w) := by
  go_enter Try.func48, Try.ntmps48
  go_wp2_with fail
  refine (newReader_any a len cap zs _ h).mono ?_
  rintro e w1 ⟨rfl, hR1, hB1, hb1⟩
  clear h
  go_wp2_with fail
  refine (atNd w.heap.size _ _ hR1 (by omega) hb1).mono ?_
  rintro e w2 ⟨b, cp, xs, i, rfl, l1, l10, hlc, hi, i0, i1, hblk, hR2, hG2⟩
  have hb2 := Nat.lt_of_lt_of_le hb1 hG2.size
  clear hR1
  go_wp2_with fail
  refine (one_lit w.heap.size 6 _ (-1) 1001 [0, 1, 5, 1000, 1001, -1] _ w2 hR2 (by omega) hb2 rfl (by omega) (by omega) (by simp)).mono ?_
  rintro e w3 ⟨j, rfl, j0, j1, hR3, hG3⟩
  have HF : Hid (IsNd w3 b xs ∧ Below w.heap.size w w3) := ⟨nd_grown hi hblk hb1 hG3, g_madeN hB1 (g_trans hG2 hG3)⟩
  clear hi hR2 hG2 hR3 hG3 hB1
  go_wp2_with fail
  go_returns
  exact ⟨b, cp, xs, i, j, rfl, l1, l10, hlc, HF.out.1, i0, i1, j0, j1, HF.out.2⟩
end Go.Proofs.Ytbmpcggdkeakeaa
