/- What the laws of chapter 3 draw. No condition but those stated. -/
import Derived.Test.YthkeopkehjkpeaaDrawTn
namespace Go.Proofs.Ythkeopkehjkpeaa
open Go.RowKit
set_option linter.unusedSimpArgs false
set_option linter.unusedVariables false
theorem g_madeT {w w1 w2 : World} (h : Below w.heap.size w w1) (hG : w1.grownBy w2 (some w.heap.size)) : Below w.heap.size w w2 := below_grown h hG (Nat.le_refl _)

def DrawnValidTurns (w : World) (e : Ending) (w' : World) : Prop := ∃ (a : Option Addr) (cap : Nat) (xs : List Tn), e = .returned (.slice a xs.length cap) ∧ xs.length ≤ 6 ∧ xs.length ≤ cap ∧ IsTn w' a xs ∧ (∀ z ∈ xs, 0 ≤ z.1 ∧ z.1 ≤ 1000 ∧ 0 ≤ z.2 ∧ z.2 ≤ 337) ∧ Below w.heap.size w w'
set_option maxHeartbeats 2000000 in
theorem drawValidTurns (a : Option Addr) (len cap : Nat) (zs : List Int) (w : World) (h : IsRow .u8 w a len cap zs) :
    Calls Try.prog 14 #[.slice a len cap] w (DrawnValidTurns w) := by
  go_enter Try.func14, Try.ntmps14
  go_wp2_with fail
  refine (newReader_any a len cap zs _ h).mono ?_
  rintro e w1 ⟨rfl, hR1, hB1, hb1⟩
  have G1 := g_below (Below.refl w1.heap.size w1) (some w.heap.size)
  clear h
  go_wp2_with fail
  refine (anyTn w.heap.size _ _ hR1 (by omega) hb1).mono ?_
  rintro e w2 ⟨b, cp, xs, rfl, hl, hlc, hi, hblk, hz, hR2, hG2⟩
  have hb2 := Nat.lt_of_lt_of_le hb1 hG2.size
  have G2 := g_trans G1 hG2
  clear hG2 hR1 G1
  have hB := g_madeT hB1 G2
  clear G2 hR2
  go_wp2_with fail
  go_ret
  exact ⟨b, cp, xs, rfl, hl, hlc, hi, hz, hB⟩

def DrawnPeriodOf (w : World) (e : Ending) (w' : World) : Prop := ∃ (a : Option Addr) (cap : Nat) (xs : List Tn), e = .returned (.slice a xs.length cap) ∧ xs.length ≤ 6 ∧ xs.length ≤ cap ∧ IsTn w' a xs ∧ (∀ z ∈ xs, 0 ≤ z.1 ∧ z.1 ≤ 1000 ∧ 0 ≤ z.2 ∧ z.2 ≤ 337) ∧ Below w.heap.size w w'
set_option maxHeartbeats 2000000 in
theorem drawPeriodOf (a : Option Addr) (len cap : Nat) (zs : List Int) (w : World) (h : IsRow .u8 w a len cap zs) :
    Calls Try.prog 18 #[.slice a len cap] w (DrawnPeriodOf w) := by
  go_enter Try.func18, Try.ntmps18
  go_wp2_with fail
  refine (newReader_any a len cap zs _ h).mono ?_
  rintro e w1 ⟨rfl, hR1, hB1, hb1⟩
  have G1 := g_below (Below.refl w1.heap.size w1) (some w.heap.size)
  clear h
  go_wp2_with fail
  refine (anyTn w.heap.size _ _ hR1 (by omega) hb1).mono ?_
  rintro e w2 ⟨b, cp, xs, rfl, hl, hlc, hi, hblk, hz, hR2, hG2⟩
  have hb2 := Nat.lt_of_lt_of_le hb1 hG2.size
  have G2 := g_trans G1 hG2
  clear hG2 hR1 G1
  have hB := g_madeT hB1 G2
  clear G2 hR2
  go_wp2_with fail
  go_ret
  exact ⟨b, cp, xs, rfl, hl, hlc, hi, hz, hB⟩

def DrawnEvenTime (w : World) (e : Ending) (w' : World) : Prop := ∃ (a : Option Addr) (cap : Nat) (xs : List Tn), e = .returned (.slice a xs.length cap) ∧ xs.length ≤ 6 ∧ xs.length ≤ cap ∧ IsTn w' a xs ∧ (∀ z ∈ xs, 0 ≤ z.1 ∧ z.1 ≤ 1000 ∧ 0 ≤ z.2 ∧ z.2 ≤ 337) ∧ Below w.heap.size w w'
set_option maxHeartbeats 2000000 in
theorem drawEvenTime (a : Option Addr) (len cap : Nat) (zs : List Int) (w : World) (h : IsRow .u8 w a len cap zs) :
    Calls Try.prog 36 #[.slice a len cap] w (DrawnEvenTime w) := by
  go_enter Try.func36, Try.ntmps36
  go_wp2_with fail
  refine (newReader_any a len cap zs _ h).mono ?_
  rintro e w1 ⟨rfl, hR1, hB1, hb1⟩
  have G1 := g_below (Below.refl w1.heap.size w1) (some w.heap.size)
  clear h
  go_wp2_with fail
  refine (anyTn w.heap.size _ _ hR1 (by omega) hb1).mono ?_
  rintro e w2 ⟨b, cp, xs, rfl, hl, hlc, hi, hblk, hz, hR2, hG2⟩
  have hb2 := Nat.lt_of_lt_of_le hb1 hG2.size
  have G2 := g_trans G1 hG2
  clear hG2 hR1 G1
  have hB := g_madeT hB1 G2
  clear G2 hR2
  go_wp2_with fail
  go_ret
  exact ⟨b, cp, xs, rfl, hl, hlc, hi, hz, hB⟩

def DrawnMergeTurns (w : World) (e : Ending) (w' : World) : Prop := ∃ (a : Option Addr) (cap : Nat) (xs : List Tn), e = .returned (.slice a xs.length cap) ∧ xs.length ≤ 6 ∧ xs.length ≤ cap ∧ IsTn w' a xs ∧ (∀ z ∈ xs, 0 ≤ z.1 ∧ z.1 ≤ 1000 ∧ 0 ≤ z.2 ∧ z.2 ≤ 337) ∧ Below w.heap.size w w'
set_option maxHeartbeats 2000000 in
theorem drawMergeTurns (a : Option Addr) (len cap : Nat) (zs : List Int) (w : World) (h : IsRow .u8 w a len cap zs) :
    Calls Try.prog 43 #[.slice a len cap] w (DrawnMergeTurns w) := by
  go_enter Try.func43, Try.ntmps43
  go_wp2_with fail
  refine (newReader_any a len cap zs _ h).mono ?_
  rintro e w1 ⟨rfl, hR1, hB1, hb1⟩
  have G1 := g_below (Below.refl w1.heap.size w1) (some w.heap.size)
  clear h
  go_wp2_with fail
  refine (anyTn w.heap.size _ _ hR1 (by omega) hb1).mono ?_
  rintro e w2 ⟨b, cp, xs, rfl, hl, hlc, hi, hblk, hz, hR2, hG2⟩
  have hb2 := Nat.lt_of_lt_of_le hb1 hG2.size
  have G2 := g_trans G1 hG2
  clear hG2 hR1 G1
  have hB := g_madeT hB1 G2
  clear G2 hR2
  go_wp2_with fail
  go_ret
  exact ⟨b, cp, xs, rfl, hl, hlc, hi, hz, hB⟩

def DrawnWhoAt (w : World) (e : Ending) (w' : World) : Prop := ∃ (a : Option Addr) (cap : Nat) (xs : List Tn) (t : Int), e = .returned (.tuple #[.slice a xs.length cap, .int .i64 t]) ∧ xs.length ≤ 6 ∧ xs.length ≤ cap ∧ IsTn w' a xs ∧ (∀ z ∈ xs, 0 ≤ z.1 ∧ z.1 ≤ 1000 ∧ 0 ≤ z.2 ∧ z.2 ≤ 337) ∧ (-1 : Int) ≤ t ∧ t ≤ 5001 ∧ Below w.heap.size w w'
set_option maxHeartbeats 2000000 in
theorem drawWhoAt (a : Option Addr) (len cap : Nat) (zs : List Int) (w : World) (h : IsRow .u8 w a len cap zs) :
    Calls Try.prog 23 #[.slice a len cap] w (DrawnWhoAt w) := by
  go_enter Try.func23, Try.ntmps23
  go_wp2_with fail
  refine (newReader_any a len cap zs _ h).mono ?_
  rintro e w1 ⟨rfl, hR1, hB1, hb1⟩
  have G1 := g_below (Below.refl w1.heap.size w1) (some w.heap.size)
  clear h
  go_wp2_with fail
  refine (anyTn w.heap.size _ _ hR1 (by omega) hb1).mono ?_
  rintro e w2 ⟨b, cp, xs, rfl, hl, hlc, hi, hblk, hz, hR2, hG2⟩
  have hb2 := Nat.lt_of_lt_of_le hb1 hG2.size
  have G2 := g_trans G1 hG2
  clear hG2 hR1 G1
  go_wp2_with fail
  refine (pick_any w.heap.size _ 60 _ hR2 (by omega)).mono ?_
  rintro e w3 ⟨p, rfl, hp, hR3, hG3⟩
  have hp0 : (p : Int) < 60 := by omega
  clear hp
  have hb3 := Nat.lt_of_lt_of_le hb2 hG3.size
  have G3 := g_trans G2 hG3
  replace hi := tn_grown hi hblk hb1 hG3
  clear hG3 hR2 G2
  go_wp2_with fail
  refine (pick_any w.heap.size _ 200 _ hR3 (by omega)).mono ?_
  rintro e w4 ⟨q, rfl, hq, hR4, hG4⟩
  have hq0 : (q : Int) < 200 := by omega
  clear hq
  have hb4 := Nat.lt_of_lt_of_le hb3 hG4.size
  have G4 := g_trans G3 hG4
  replace hi := tn_grown hi hblk hb1 hG4
  clear hG4 hR3 G3
  go_wp2_with fail
  refine (one_lit w.heap.size 6 _ (-1) (5001) [(p : Int), (q : Int), 0, 5000, 5001, (-1)] _ w4 hR4 (by omega) hb4 rfl (by omega) (by omega) (by simp; omega)).mono ?_
  rintro e w5 ⟨t, rfl, tl, th, hR5, hG5⟩
  have hb5 := Nat.lt_of_lt_of_le hb4 hG5.size
  have G5 := g_trans G4 hG5
  replace hi := tn_grown hi hblk hb1 hG5
  clear hG5 hR4 G4
  have hB := g_madeT hB1 G5
  clear G5 hR5
  go_wp2_with fail
  go_returns
  exact ⟨b, cp, xs, t, rfl, hl, hlc, hi, hz, by omega, by omega, hB⟩

def DrawnStartOf (w : World) (e : Ending) (w' : World) : Prop := ∃ (a : Option Addr) (cap : Nat) (xs : List Tn) (i : Int), e = .returned (.tuple #[.slice a xs.length cap, .int .i64 i]) ∧ xs.length ≤ 6 ∧ xs.length ≤ cap ∧ IsTn w' a xs ∧ (∀ z ∈ xs, 0 ≤ z.1 ∧ z.1 ≤ 1000 ∧ 0 ≤ z.2 ∧ z.2 ≤ 337) ∧ (-1 : Int) ≤ i ∧ i ≤ 9 ∧ Below w.heap.size w w'
set_option maxHeartbeats 2000000 in
theorem drawStartOf (a : Option Addr) (len cap : Nat) (zs : List Int) (w : World) (h : IsRow .u8 w a len cap zs) :
    Calls Try.prog 26 #[.slice a len cap] w (DrawnStartOf w) := by
  go_enter Try.func26, Try.ntmps26
  go_wp2_with fail
  refine (newReader_any a len cap zs _ h).mono ?_
  rintro e w1 ⟨rfl, hR1, hB1, hb1⟩
  have G1 := g_below (Below.refl w1.heap.size w1) (some w.heap.size)
  clear h
  go_wp2_with fail
  refine (anyTn w.heap.size _ _ hR1 (by omega) hb1).mono ?_
  rintro e w2 ⟨b, cp, xs, rfl, hl, hlc, hi, hblk, hz, hR2, hG2⟩
  have hb2 := Nat.lt_of_lt_of_le hb1 hG2.size
  have G2 := g_trans G1 hG2
  clear hG2 hR1 G1
  go_wp2_with fail
  refine (one_lit w.heap.size 6 _ (-1) (9) [0, 1, 2, 3, (-1), 9] _ w2 hR2 (by omega) hb2 rfl (by omega) (by omega) (by simp)).mono ?_
  rintro e w3 ⟨i, rfl, il, ih, hR3, hG3⟩
  have hb3 := Nat.lt_of_lt_of_le hb2 hG3.size
  have G3 := g_trans G2 hG3
  replace hi := tn_grown hi hblk hb1 hG3
  clear hG3 hR2 G2
  have hB := g_madeT hB1 G3
  clear G3 hR3
  go_wp2_with fail
  go_returns
  exact ⟨b, cp, xs, i, rfl, hl, hlc, hi, hz, by omega, by omega, hB⟩

def DrawnNextHour (w : World) (e : Ending) (w' : World) : Prop := ∃ (a : Option Addr) (cap : Nat) (xs : List Tn) (o t : Int), e = .returned (.tuple #[.slice a xs.length cap, .int .i64 o, .int .i64 t]) ∧ xs.length ≤ 6 ∧ xs.length ≤ cap ∧ IsTn w' a xs ∧ (∀ z ∈ xs, 0 ≤ z.1 ∧ z.1 ≤ 1000 ∧ 0 ≤ z.2 ∧ z.2 ≤ 337) ∧ (1 : Int) ≤ o ∧ o ≤ 9 ∧ (-1 : Int) ≤ t ∧ t ≤ 5001 ∧ Below w.heap.size w w'
set_option maxHeartbeats 2000000 in
theorem drawNextHour (a : Option Addr) (len cap : Nat) (zs : List Int) (w : World) (h : IsRow .u8 w a len cap zs) :
    Calls Try.prog 28 #[.slice a len cap] w (DrawnNextHour w) := by
  go_enter Try.func28, Try.ntmps28
  go_wp2_with fail
  refine (newReader_any a len cap zs _ h).mono ?_
  rintro e w1 ⟨rfl, hR1, hB1, hb1⟩
  have G1 := g_below (Below.refl w1.heap.size w1) (some w.heap.size)
  clear h
  go_wp2_with fail
  refine (anyTn w.heap.size _ _ hR1 (by omega) hb1).mono ?_
  rintro e w2 ⟨b, cp, xs, rfl, hl, hlc, hi, hblk, hz, hR2, hG2⟩
  have hb2 := Nat.lt_of_lt_of_le hb1 hG2.size
  have G2 := g_trans G1 hG2
  clear hG2 hR1 G1
  go_wp2_with fail
  refine (one_lit w.heap.size 6 _ (1) (9) [1, 2, 3, 4, 7, 9] _ w2 hR2 (by omega) hb2 rfl (by omega) (by omega) (by simp)).mono ?_
  rintro e w3 ⟨o, rfl, ol, oh, hR3, hG3⟩
  have hb3 := Nat.lt_of_lt_of_le hb2 hG3.size
  have G3 := g_trans G2 hG3
  replace hi := tn_grown hi hblk hb1 hG3
  clear hG3 hR2 G2
  go_wp2_with fail
  refine (pick_any w.heap.size _ 60 _ hR3 (by omega)).mono ?_
  rintro e w4 ⟨p, rfl, hp, hR4, hG4⟩
  have hp0 : (p : Int) < 60 := by omega
  clear hp
  have hb4 := Nat.lt_of_lt_of_le hb3 hG4.size
  have G4 := g_trans G3 hG4
  replace hi := tn_grown hi hblk hb1 hG4
  clear hG4 hR3 G3
  go_wp2_with fail
  refine (one_lit w.heap.size 5 _ (-1) (5001) [(p : Int), 0, 4998, 5001, (-1)] _ w4 hR4 (by omega) hb4 rfl (by omega) (by omega) (by simp; omega)).mono ?_
  rintro e w5 ⟨t, rfl, tl, th, hR5, hG5⟩
  have hb5 := Nat.lt_of_lt_of_le hb4 hG5.size
  have G5 := g_trans G4 hG5
  replace hi := tn_grown hi hblk hb1 hG5
  clear hG5 hR4 G4
  have hB := g_madeT hB1 G5
  clear G5 hR5
  go_wp2_with fail
  go_returns
  exact ⟨b, cp, xs, o, t, rfl, hl, hlc, hi, hz, by omega, by omega, by omega, by omega, hB⟩

def DrawnHoursIn (w : World) (e : Ending) (w' : World) : Prop := ∃ (a : Option Addr) (cap : Nat) (xs : List Tn) (o f t : Int), e = .returned (.tuple #[.slice a xs.length cap, .int .i64 o, .int .i64 f, .int .i64 t]) ∧ xs.length ≤ 6 ∧ xs.length ≤ cap ∧ IsTn w' a xs ∧ (∀ z ∈ xs, 0 ≤ z.1 ∧ z.1 ≤ 1000 ∧ 0 ≤ z.2 ∧ z.2 ≤ 337) ∧ (1 : Int) ≤ o ∧ o ≤ 9 ∧ (-1 : Int) ≤ f ∧ f ≤ 4990 ∧ (-2 : Int) ≤ t ∧ t ≤ 5090 ∧ Below w.heap.size w w'
set_option maxHeartbeats 2000000 in
theorem drawHoursIn (a : Option Addr) (len cap : Nat) (zs : List Int) (w : World) (h : IsRow .u8 w a len cap zs) :
    Calls Try.prog 31 #[.slice a len cap] w (DrawnHoursIn w) := by
  go_enter Try.func31, Try.ntmps31
  go_wp2_with fail
  refine (newReader_any a len cap zs _ h).mono ?_
  rintro e w1 ⟨rfl, hR1, hB1, hb1⟩
  have G1 := g_below (Below.refl w1.heap.size w1) (some w.heap.size)
  clear h
  go_wp2_with fail
  refine (pick_any w.heap.size _ 60 _ hR1 (by omega)).mono ?_
  rintro e w2 ⟨p, rfl, hp, hR2, hG2⟩
  have hp0 : (p : Int) < 60 := by omega
  clear hp
  have hb2 := Nat.lt_of_lt_of_le hb1 hG2.size
  have G2 := g_trans G1 hG2
  clear hG2 hR1 G1
  go_wp2_with fail
  refine (one_lit w.heap.size 4 _ (-1) (4990) [0, (p : Int), 4990, (-1)] _ w2 hR2 (by omega) hb2 rfl (by omega) (by omega) (by simp; omega)).mono ?_
  rintro e w3 ⟨f, rfl, fl, fh, hR3, hG3⟩
  have hb3 := Nat.lt_of_lt_of_le hb2 hG3.size
  have G3 := g_trans G2 hG3
  clear hG3 hR2 G2
  go_wp2_with fail
  refine (anyTn w.heap.size _ _ hR3 (by omega) hb3).mono ?_
  rintro e w4 ⟨b, cp, xs, rfl, hl, hlc, hi, hblk, hz, hR4, hG4⟩
  have hb4 := Nat.lt_of_lt_of_le hb3 hG4.size
  have G4 := g_trans G3 hG4
  clear hG4 hR3 G3
  go_wp2_with fail
  refine (one_lit w.heap.size 6 _ (1) (9) [1, 2, 3, 4, 7, 9] _ w4 hR4 (by omega) hb4 rfl (by omega) (by omega) (by simp)).mono ?_
  rintro e w5 ⟨o, rfl, ol, oh, hR5, hG5⟩
  have hb5 := Nat.lt_of_lt_of_le hb4 hG5.size
  have G5 := g_trans G4 hG5
  replace hi := tn_grown hi hblk hb3 hG5
  clear hG5 hR4 G4
  go_wp2_with fail
  refine (pick_any w.heap.size _ 100 _ hR5 (by omega)).mono ?_
  rintro e w6 ⟨q, rfl, hq, hR6, hG6⟩
  have hq0 : (q : Int) < 100 := by omega
  clear hq
  have hb6 := Nat.lt_of_lt_of_le hb5 hG6.size
  have G6 := g_trans G5 hG6
  replace hi := tn_grown hi hblk hb3 hG6
  clear hG6 hR5 G5
  go_wp2_with fail
  refine (one_lit w.heap.size 5 _ (-1) (100) [24, 48, (q : Int), 0, (-1)] _ w6 hR6 (by omega) hb6 rfl (by omega) (by omega) (by simp; omega)).mono ?_
  rintro e w7 ⟨d, rfl, dl, dh, hR7, hG7⟩
  have hb7 := Nat.lt_of_lt_of_le hb6 hG7.size
  have G7 := g_trans G6 hG7
  replace hi := tn_grown hi hblk hb3 hG7
  clear hG7 hR6 G6
  have hB := g_madeT hB1 G7
  clear G7 hR7
  go_wp2_with fail
  go_returns
  exact ⟨b, cp, xs, o, f, f + d, rfl, hl, hlc, hi, hz, by omega, by omega, by omega, by omega, by omega, by omega, hB⟩

def DrawnSwapTurns (w : World) (e : Ending) (w' : World) : Prop := ∃ (a : Option Addr) (cap : Nat) (xs : List Tn) (i k : Int), e = .returned (.tuple #[.slice a xs.length cap, .int .i64 i, .int .i64 k]) ∧ xs.length ≤ 6 ∧ xs.length ≤ cap ∧ IsTn w' a xs ∧ (∀ z ∈ xs, 0 ≤ z.1 ∧ z.1 ≤ 1000 ∧ 0 ≤ z.2 ∧ z.2 ≤ 337) ∧ (-1 : Int) ≤ i ∧ i ≤ 9 ∧ (0 : Int) ≤ k ∧ k ≤ 24 ∧ Below w.heap.size w w'
set_option maxHeartbeats 2000000 in
theorem drawSwapTurns (a : Option Addr) (len cap : Nat) (zs : List Int) (w : World) (h : IsRow .u8 w a len cap zs) :
    Calls Try.prog 39 #[.slice a len cap] w (DrawnSwapTurns w) := by
  go_enter Try.func39, Try.ntmps39
  go_wp2_with fail
  refine (newReader_any a len cap zs _ h).mono ?_
  rintro e w1 ⟨rfl, hR1, hB1, hb1⟩
  have G1 := g_below (Below.refl w1.heap.size w1) (some w.heap.size)
  clear h
  go_wp2_with fail
  refine (anyTn w.heap.size _ _ hR1 (by omega) hb1).mono ?_
  rintro e w2 ⟨b, cp, xs, rfl, hl, hlc, hi, hblk, hz, hR2, hG2⟩
  have hb2 := Nat.lt_of_lt_of_le hb1 hG2.size
  have G2 := g_trans G1 hG2
  clear hG2 hR1 G1
  go_wp2_with fail
  refine (one_lit w.heap.size 5 _ (-1) (9) [0, 1, 2, (-1), 9] _ w2 hR2 (by omega) hb2 rfl (by omega) (by omega) (by simp)).mono ?_
  rintro e w3 ⟨i, rfl, il, ih, hR3, hG3⟩
  have hb3 := Nat.lt_of_lt_of_le hb2 hG3.size
  have G3 := g_trans G2 hG3
  replace hi := tn_grown hi hblk hb1 hG3
  clear hG3 hR2 G2
  go_wp2_with fail
  refine (one_lit w.heap.size 5 _ (0) (24) [1, 0, 2, 3, 24] _ w3 hR3 (by omega) hb3 rfl (by omega) (by omega) (by simp)).mono ?_
  rintro e w4 ⟨k, rfl, kl, kh, hR4, hG4⟩
  have hb4 := Nat.lt_of_lt_of_le hb3 hG4.size
  have G4 := g_trans G3 hG4
  replace hi := tn_grown hi hblk hb1 hG4
  clear hG4 hR3 G3
  have hB := g_madeT hB1 G4
  clear G4 hR4
  go_wp2_with fail
  go_returns
  exact ⟨b, cp, xs, i, k, rfl, hl, hlc, hi, hz, by omega, by omega, by omega, by omega, hB⟩

theorem drawNightsIn (a : Option Addr) (len cap : Nat) (zs : List Int) (w : World) (h : IsRow .u8 w a len cap zs) :
    Calls Try.prog 33 #[.slice a len cap] w (DrawnHoursIn w) := by
  go_enter Try.func33, Try.ntmps33
  go_wp2_with fail
  refine (drawHoursIn a len cap zs _ h).mono ?_
  rintro e w1 ⟨b, cp, xs, o, f, t, rfl, hl, hlc, hi, hz, o0, o1, f0, f1, t0, t1, hB⟩
  clear h
  go_wp2_with fail
  go_returns
  exact ⟨b, cp, xs, o, f, t, rfl, hl, hlc, hi, hz, o0, o1, f0, f1, t0, t1, hB⟩
end Go.Proofs.Ythkeopkehjkpeaa
