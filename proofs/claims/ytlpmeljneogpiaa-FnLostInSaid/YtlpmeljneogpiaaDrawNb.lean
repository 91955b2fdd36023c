/- The draws of the laws on channels. Condition: at most 1048576 nodes. -/
import Derived.Test.YtlpmeljneogpiaaDrawNa
namespace Go.Proofs.Ytlpmeljneogpiaa
open Go.RowKit
set_option linter.unusedSimpArgs false
set_option linter.unusedVariables false
theorem g_madeN {w w1 w2 : World} (h : Below w.heap.size w w1) (hG : w1.grownBy w2 (some w.heap.size)) : Below w.heap.size w w2 := below_grown h hG (Nat.le_refl _)
def AtNd (w : World) (b : Nat) (P : Int) (e : Ending) (w' : World) : Prop := ∃ (a : Option Addr) (cap : Nat) (xs : List Nd) (i : Int), e = .returned (.tuple #[.slice a xs.length cap, .int .i64 i]) ∧ 1 ≤ xs.length ∧ xs.length ≤ 10 ∧ xs.length ≤ cap ∧ IsNd w' a xs ∧ -1 ≤ i ∧ i ≤ 12 ∧ (∀ ad, a = some ad → w.heap.size ≤ ad.block) ∧ Rd w' b (P + 65) ∧ w.grownBy w' (some b)
def DrawnValidNodes (w : World) (e : Ending) (w' : World) : Prop := ∃ (a : Option Addr) (cap : Nat) (xs : List Nd), e = .returned (.slice a xs.length cap) ∧ 1 ≤ xs.length ∧ xs.length ≤ 10 ∧ xs.length ≤ cap ∧ IsNd w' a xs ∧ Below w.heap.size w w'
def DrawnLeavesOf (w : World) (e : Ending) (w' : World) : Prop := ∃ (a : Option Addr) (cap : Nat) (xs : List Nd), e = .returned (.slice a xs.length cap) ∧ 1 ≤ xs.length ∧ xs.length ≤ 10 ∧ xs.length ≤ cap ∧ IsNd w' a xs ∧ Below w.heap.size w w'
def DrawnKidsOf (w : World) (e : Ending) (w' : World) : Prop := ∃ (a : Option Addr) (cap : Nat) (xs : List Nd) (i : Int), e = .returned (.tuple #[.slice a xs.length cap, .int .i64 i]) ∧ 1 ≤ xs.length ∧ xs.length ≤ 10 ∧ xs.length ≤ cap ∧ IsNd w' a xs ∧ -1 ≤ i ∧ i ≤ 12 ∧ Below w.heap.size w w'
def DrawnPathTo (w : World) (e : Ending) (w' : World) : Prop := ∃ (a : Option Addr) (cap : Nat) (xs : List Nd) (i : Int), e = .returned (.tuple #[.slice a xs.length cap, .int .i64 i]) ∧ 1 ≤ xs.length ∧ xs.length ≤ 10 ∧ xs.length ≤ cap ∧ IsNd w' a xs ∧ -1 ≤ i ∧ i ≤ 12 ∧ Below w.heap.size w w'
def DrawnDelayTo (w : World) (e : Ending) (w' : World) : Prop := ∃ (a : Option Addr) (cap : Nat) (xs : List Nd) (i : Int), e = .returned (.tuple #[.slice a xs.length cap, .int .i64 i]) ∧ 1 ≤ xs.length ∧ xs.length ≤ 10 ∧ xs.length ≤ cap ∧ IsNd w' a xs ∧ -1 ≤ i ∧ i ≤ 12 ∧ Below w.heap.size w w'
def DrawnFlowsOf (w : World) (e : Ending) (w' : World) : Prop := ∃ (a : Option Addr) (cap : Nat) (xs : List Nd) (i : Int), e = .returned (.tuple #[.slice a xs.length cap, .int .i64 i]) ∧ 1 ≤ xs.length ∧ xs.length ≤ 10 ∧ xs.length ≤ cap ∧ IsNd w' a xs ∧ -1 ≤ i ∧ i ≤ 501 ∧ Below w.heap.size w w'
set_option maxHeartbeats 2000000 in
theorem drawFlowsOf (a : Option Addr) (len cap : Nat) (zs : List Int) (w : World) (h : IsRow .u8 w a len cap zs) :
    Calls Try.prog 30 #[.slice a len cap] w (DrawnFlowsOf w) := by
  go_enter Try.func30, Try.ntmps30
  go_wp2_with fail
  refine (newReader_any a len cap zs _ h).mono ?_
  rintro e w1 ⟨rfl, hR1, hB1, hb1⟩
  clear h
  go_wp2_with fail
  refine (anyNd w.heap.size _ _ hR1 (by omega) hb1).mono ?_
  rintro e w2 ⟨b, cp, xs, rfl, l1, l10, hlc, hi, hblk, hR2, hG2⟩
  have hb2 := Nat.lt_of_lt_of_le hb1 hG2.size
  clear hR1
  go_wp2_with fail
  refine (pick_any w.heap.size _ 200 _ hR2 (by omega)).mono ?_
  rintro e w3 ⟨p, rfl, hp, hR3, hG3⟩
  have hb3 := Nat.lt_of_lt_of_le hb2 hG3.size
  have p1 : (p : Int) ≤ 200 := by omega
  replace hi := nd_grown hi hblk hb1 hG3
  have G3 := g_trans hG2 hG3
  clear hp hR2 hG2 hG3
  go_wp2_with fail
  refine (one_lit w.heap.size 8 _ (-1) 501 [60, 30, 100, (p : Int), 0, 500, 501, -1] _ w3 hR3 (by omega) hb3 rfl (by omega) (by omega) (by simp; omega)).mono ?_
  rintro e w4 ⟨i, rfl, i0, i1, hR4, hG4⟩
  have HF : Hid (IsNd w4 b xs ∧ Below w.heap.size w w4) := ⟨nd_grown hi hblk hb1 hG4, g_madeN hB1 (g_trans G3 hG4)⟩
  clear hi hR3 hR4 hG4 G3 hB1
  go_wp2_with fail
  go_returns
  exact ⟨b, cp, xs, i, rfl, l1, l10, hlc, HF.out.1, i0, i1, HF.out.2⟩
theorem drawPassedOf (a : Option Addr) (len cap : Nat) (zs : List Int) (w : World) (h : IsRow .u8 w a len cap zs) :
    Calls Try.prog 35 #[.slice a len cap] w (DrawnFlowsOf w) := by
  go_enter Try.func35, Try.ntmps35
  go_wp2_with fail
  refine (drawFlowsOf a len cap zs _ h).mono ?_
  rintro e w1 ⟨b, cp, xs, i, rfl, r⟩
  go_wp2_with fail
  go_returns
  exact ⟨b, cp, xs, i, rfl, r⟩
theorem drawLostIn (a : Option Addr) (len cap : Nat) (zs : List Int) (w : World) (h : IsRow .u8 w a len cap zs) :
    Calls Try.prog 33 #[.slice a len cap] w (DrawnFlowsOf w) := by
  go_enter Try.func33, Try.ntmps33
  go_wp2_with fail
  refine (drawFlowsOf a len cap zs _ h).mono ?_
  rintro e w1 ⟨b, cp, xs, i, rfl, r⟩
  go_wp2_with fail
  go_returns
  exact ⟨b, cp, xs, i, rfl, r⟩
def DrawnNeedFor (w : World) (e : Ending) (w' : World) : Prop := ∃ (a : Option Addr) (cap : Nat) (xs : List Nd) (i j : Int), e = .returned (.tuple #[.slice a xs.length cap, .int .i64 i, .int .i64 j]) ∧ 1 ≤ xs.length ∧ xs.length ≤ 10 ∧ xs.length ≤ cap ∧ IsNd w' a xs ∧ -1 ≤ i ∧ i ≤ 12 ∧ 0 ≤ j ∧ j ≤ 501 ∧ Below w.heap.size w w'
def DrawnSetGate (w : World) (e : Ending) (w' : World) : Prop := ∃ (a : Option Addr) (cap : Nat) (xs : List Nd) (i j : Int), e = .returned (.tuple #[.slice a xs.length cap, .int .i64 i, .int .i64 j]) ∧ 1 ≤ xs.length ∧ xs.length ≤ 10 ∧ xs.length ≤ cap ∧ IsNd w' a xs ∧ -1 ≤ i ∧ i ≤ 12 ∧ -1 ≤ j ∧ j ≤ 1001 ∧ Below w.heap.size w w'
end Go.Proofs.Ytlpmeljneogpiaa
