/- The draws of the laws on channels. Condition: at most 1048576 nodes. -/
import Derived.Test.YtlpmeljneogpiabDrawNa
namespace Go.Proofs.Ytlpmeljneogpiab
open Go.RowKit
set_option linter.unusedSimpArgs false
set_option linter.unusedVariables false
theorem g_madeN {w w1 w2 : World} (h : Below w.heap.size w w1) (hG : w1.grownBy w2 (some w.heap.size)) : Below w.heap.size w w2 := below_grown h hG (Nat.le_refl _)
def AtNd (w : World) (b : Nat) (P : Int) (e : Ending) (w' : World) : Prop := ∃ (a : Option Addr) (cap : Nat) (xs : List Nd) (i : Int), e = .returned (.tuple #[.slice a xs.length cap, .int .i64 i]) ∧ 1 ≤ xs.length ∧ xs.length ≤ 10 ∧ xs.length ≤ cap ∧ IsNd w' a xs ∧ -1 ≤ i ∧ i ≤ 12 ∧ (∀ ad, a = some ad → w.heap.size ≤ ad.block) ∧ Rd w' b (P + 65) ∧ w.grownBy w' (some b)
set_option maxHeartbeats 4000000 in
theorem atNd (b : Nat) (P : Int) (w : World) (h : Rd w b P) (hP : P ≤ 70000) (hb : b < w.heap.size) :
    Calls Try.prog 43 #[.pointer (some ⟨b, 0, none⟩)] w (AtNd w b P) := by
  go_enter Try.func43, Try.ntmps43
  go_wp2_with fail
  refine (anyNd b P _ h hP hb).mono ?_
  rintro e w1 ⟨a, cp, xs, rfl, k1, k10, hcp, hi, hblk, hR1, hG1⟩
  have hb1 := Nat.lt_of_lt_of_le hb hG1.size
  clear h
  go_wp2_with fail
  refine (pick_any b _ 8 _ hR1 (by omega)).mono ?_
  rintro e w2 ⟨p, rfl, hp, hR2, hG2⟩
  have hb2 := Nat.lt_of_lt_of_le hb1 hG2.size
  have G2 := g_trans hG1 hG2
  replace hi := nd_grown hi hblk hb hG2
  clear hp hG1 hG2 hR1
  by_cases p0 : p = 0
  · subst p0
    go_wp2_with fail
    refine (one_lit b 2 _ (-1) 12 [-1, 12] _ w2 hR2 (by omega) hb2 rfl (by omega) (by omega) (by simp)).mono ?_
    rintro e w3 ⟨i, rfl, i0, i1, hR3, hG3⟩
    have HF : Hid (IsNd w3 a xs ∧ Rd w3 b (P + 65) ∧ w.grownBy w3 (some b)) := ⟨nd_grown hi hblk hb hG3, rd_up hR3 (by omega), g_trans G2 hG3⟩
    clear hi hR3 hG3 G2 hR2
    go_wp2_with fail
    go_returns
    exact ⟨a, cp, xs, i, rfl, k1, k10, hcp, HF.out.1, i0, i1, hblk, HF.out.2.1, HF.out.2.2⟩
  · have e0 : ((p : Int) == 0) = false := by simp; omega
    have e1 : (p == 0) = false := by simpa using p0
    go_wp2_with fail
    refine (pick_any b _ (xs.length : Int) _ hR2 (by omega)).mono ?_
    rintro e w3 ⟨i, rfl, hi3, hR3, hG3⟩
    have HF : Hid (IsNd w3 a xs ∧ Rd w3 b (P + 65) ∧ w.grownBy w3 (some b)) := ⟨nd_grown hi hblk hb hG3, rd_up hR3 (by omega), g_trans G2 hG3⟩
    have i1 : (i : Int) ≤ 12 := by omega
    clear hi hR3 hG3 G2 hR2 hi3
    go_wp2_with fail
    go_returns
    exact ⟨a, cp, xs, (i : Int), rfl, k1, k10, hcp, HF.out.1, by omega, i1, hblk, HF.out.2.1, HF.out.2.2⟩
def DrawnValidNodes (w : World) (e : Ending) (w' : World) : Prop := ∃ (a : Option Addr) (cap : Nat) (xs : List Nd), e = .returned (.slice a xs.length cap) ∧ 1 ≤ xs.length ∧ xs.length ≤ 10 ∧ xs.length ≤ cap ∧ IsNd w' a xs ∧ Below w.heap.size w w'
def DrawnLeavesOf (w : World) (e : Ending) (w' : World) : Prop := ∃ (a : Option Addr) (cap : Nat) (xs : List Nd), e = .returned (.slice a xs.length cap) ∧ 1 ≤ xs.length ∧ xs.length ≤ 10 ∧ xs.length ≤ cap ∧ IsNd w' a xs ∧ Below w.heap.size w w'
def DrawnKidsOf (w : World) (e : Ending) (w' : World) : Prop := ∃ (a : Option Addr) (cap : Nat) (xs : List Nd) (i : Int), e = .returned (.tuple #[.slice a xs.length cap, .int .i64 i]) ∧ 1 ≤ xs.length ∧ xs.length ≤ 10 ∧ xs.length ≤ cap ∧ IsNd w' a xs ∧ -1 ≤ i ∧ i ≤ 12 ∧ Below w.heap.size w w'
def DrawnPathTo (w : World) (e : Ending) (w' : World) : Prop := ∃ (a : Option Addr) (cap : Nat) (xs : List Nd) (i : Int), e = .returned (.tuple #[.slice a xs.length cap, .int .i64 i]) ∧ 1 ≤ xs.length ∧ xs.length ≤ 10 ∧ xs.length ≤ cap ∧ IsNd w' a xs ∧ -1 ≤ i ∧ i ≤ 12 ∧ Below w.heap.size w w'
def DrawnDelayTo (w : World) (e : Ending) (w' : World) : Prop := ∃ (a : Option Addr) (cap : Nat) (xs : List Nd) (i : Int), e = .returned (.tuple #[.slice a xs.length cap, .int .i64 i]) ∧ 1 ≤ xs.length ∧ xs.length ≤ 10 ∧ xs.length ≤ cap ∧ IsNd w' a xs ∧ -1 ≤ i ∧ i ≤ 12 ∧ Below w.heap.size w w'
def DrawnFlowsOf (w : World) (e : Ending) (w' : World) : Prop := ∃ (a : Option Addr) (cap : Nat) (xs : List Nd) (i : Int), e = .returned (.tuple #[.slice a xs.length cap, .int .i64 i]) ∧ 1 ≤ xs.length ∧ xs.length ≤ 10 ∧ xs.length ≤ cap ∧ IsNd w' a xs ∧ -1 ≤ i ∧ i ≤ 501 ∧ Below w.heap.size w w'
def DrawnNeedFor (w : World) (e : Ending) (w' : World) : Prop := ∃ (a : Option Addr) (cap : Nat) (xs : List Nd) (i j : Int), e = .returned (.tuple #[.slice a xs.length cap, .int .i64 i, .int .i64 j]) ∧ 1 ≤ xs.length ∧ xs.length ≤ 10 ∧ xs.length ≤ cap ∧ IsNd w' a xs ∧ -1 ≤ i ∧ i ≤ 12 ∧ 0 ≤ j ∧ j ≤ 501 ∧ Below w.heap.size w w'
set_option maxHeartbeats 2000000 in
theorem drawNeedFor (a : Option Addr) (len cap : Nat) (zs : List Int) (w : World) (h : IsRow .u8 w a len cap zs) :
    Calls Try.prog 12 #[.slice a len cap] w (DrawnNeedFor w) := by
  go_enter Try.func12, Try.ntmps12
  go_wp2_with fail
  refine (newReader_any a len cap zs _ h).mono ?_
  rintro e w1 ⟨rfl, hR1, hB1, hb1⟩
  clear h
  go_wp2_with fail
  refine (atNd w.heap.size _ _ hR1 (by omega) hb1).mono ?_
  rintro e w2 ⟨b, cp, xs, i, rfl, l1, l10, hlc, hi, i0, i1, hblk, hR2, hG2⟩
  have hb2 := Nat.lt_of_lt_of_le hb1 hG2.size
  clear hR1
  go_wp2_with fail
  refine (one_lit w.heap.size 6 _ (0) 501 [5, 10, 1, 0, 40, 501] _ w2 hR2 (by omega) hb2 rfl (by omega) (by omega) (by simp)).mono ?_
  rintro e w3 ⟨j, rfl, j0, j1, hR3, hG3⟩
  have HF : Hid (IsNd w3 b xs ∧ Below w.heap.size w w3) := ⟨nd_grown hi hblk hb1 hG3, g_madeN hB1 (g_trans hG2 hG3)⟩
  clear hi hR2 hG2 hR3 hG3 hB1
  go_wp2_with fail
  go_returns
  exact ⟨b, cp, xs, i, j, rfl, l1, l10, hlc, HF.out.1, i0, i1, j0, j1, HF.out.2⟩
def DrawnSetGate (w : World) (e : Ending) (w' : World) : Prop := ∃ (a : Option Addr) (cap : Nat) (xs : List Nd) (i j : Int), e = .returned (.tuple #[.slice a xs.length cap, .int .i64 i, .int .i64 j]) ∧ 1 ≤ xs.length ∧ xs.length ≤ 10 ∧ xs.length ≤ cap ∧ IsNd w' a xs ∧ -1 ≤ i ∧ i ≤ 12 ∧ -1 ≤ j ∧ j ≤ 1001 ∧ Below w.heap.size w w'
set_option maxHeartbeats 2000000 in
theorem drawSetGate (a : Option Addr) (len cap : Nat) (zs : List Int) (w : World) (h : IsRow .u8 w a len cap zs) :
    Calls Try.prog 17 #[.slice a len cap] w (DrawnSetGate w) := by
  go_enter Try.func17, Try.ntmps17
  go_wp2_with fail
  refine (newReader_any a len cap zs _ h).mono ?_
  rintro e w1 ⟨rfl, hR1, hB1, hb1⟩
  clear h
  go_wp2_with fail
  refine (atNd w.heap.size _ _ hR1 (by omega) hb1).mono ?_
  rintro e w2 ⟨b, cp, xs, i, rfl, l1, l10, hlc, hi, i0, i1, hblk, hR2, hG2⟩
  have hb2 := Nat.lt_of_lt_of_le hb1 hG2.size
  clear hR1
  go_wp2_with fail
  refine (one_lit w.heap.size 6 _ (-1) 1001 [0, 1, 5, 1000, 1001, -1] _ w2 hR2 (by omega) hb2 rfl (by omega) (by omega) (by simp)).mono ?_
  rintro e w3 ⟨j, rfl, j0, j1, hR3, hG3⟩
  have HF : Hid (IsNd w3 b xs ∧ Below w.heap.size w w3) := ⟨nd_grown hi hblk hb1 hG3, g_madeN hB1 (g_trans hG2 hG3)⟩
  clear hi hR2 hG2 hR3 hG3 hB1
  go_wp2_with fail
  go_returns
  exact ⟨b, cp, xs, i, j, rfl, l1, l10, hlc, HF.out.1, i0, i1, j0, j1, HF.out.2⟩
end Go.Proofs.Ytlpmeljneogpiab
