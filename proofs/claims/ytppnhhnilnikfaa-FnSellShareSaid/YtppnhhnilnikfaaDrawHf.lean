/- What the laws on ledgers draw. No condition but those stated. -/
import Derived.Test.YtppnhhnilnikfaaDrawHe
namespace Go.Proofs.Ytppnhhnilnikfaa
open Go.RowKit
set_option linter.unusedSimpArgs false
set_option linter.unusedVariables false
theorem g_madeH {w w1 w2 : World} (h : Below w.heap.size w w1) (hG : w1.grownBy w2 (some w.heap.size)) : Below w.heap.size w w2 := below_grown h hG (Nat.le_refl _)

def DrawnValidLedger (w : World) (e : Ending) (w' : World) : Prop := ∃ (a : Option Addr) (cap : Nat) (hs : List Hd), e = .returned (.slice a hs.length cap) ∧ hs.length ≤ 6 ∧ hs.length ≤ cap ∧ IsHs w' a hs ∧ Below w.heap.size w w'
set_option maxHeartbeats 2000000 in
theorem drawValidLedger (a : Option Addr) (len cap : Nat) (zs : List Int) (w : World) (h : IsRow .u8 w a len cap zs) :
    Calls Try.prog 11 #[.slice a len cap] w (DrawnValidLedger w) := by
  go_enter Try.func11, Try.ntmps11
  go_wp2_with fail
  refine (newReader_any a len cap zs _ h).mono ?_
  rintro e w1 ⟨rfl, hR1, hB1, hb1⟩
  have G1 := g_below (Below.refl w1.heap.size w1) (some w.heap.size)
  clear h
  go_wp2_with fail
  refine (anyHd w.heap.size _ _ hR1 (by omega) hb1).mono ?_
  rintro e w2 ⟨b, cp, hs, rfl, hl, hlc, hi, hblk, hR2, hG2⟩
  have hb2 := Nat.lt_of_lt_of_le hb1 hG2.size
  have G2 := g_trans G1 hG2
  clear hG2 hR1 G1
  have hB := g_madeH hB1 G2
  clear G2 hR2
  go_wp2_with fail
  go_ret
  exact ⟨b, cp, hs, rfl, hl, hlc, hi, hB⟩

def DrawnCommonDen (w : World) (e : Ending) (w' : World) : Prop := ∃ (a : Option Addr) (cap : Nat) (hs : List Hd), e = .returned (.slice a hs.length cap) ∧ hs.length ≤ 6 ∧ hs.length ≤ cap ∧ IsHs w' a hs ∧ Below w.heap.size w w'
set_option maxHeartbeats 2000000 in
theorem drawCommonDen (a : Option Addr) (len cap : Nat) (zs : List Int) (w : World) (h : IsRow .u8 w a len cap zs) :
    Calls Try.prog 30 #[.slice a len cap] w (DrawnCommonDen w) := by
  go_enter Try.func30, Try.ntmps30
  go_wp2_with fail
  refine (newReader_any a len cap zs _ h).mono ?_
  rintro e w1 ⟨rfl, hR1, hB1, hb1⟩
  have G1 := g_below (Below.refl w1.heap.size w1) (some w.heap.size)
  clear h
  go_wp2_with fail
  refine (anyHd w.heap.size _ _ hR1 (by omega) hb1).mono ?_
  rintro e w2 ⟨b, cp, hs, rfl, hl, hlc, hi, hblk, hR2, hG2⟩
  have hb2 := Nat.lt_of_lt_of_le hb1 hG2.size
  have G2 := g_trans G1 hG2
  clear hG2 hR1 G1
  have hB := g_madeH hB1 G2
  clear G2 hR2
  go_wp2_with fail
  go_ret
  exact ⟨b, cp, hs, rfl, hl, hlc, hi, hB⟩

def DrawnUnitsOf (w : World) (e : Ending) (w' : World) : Prop := ∃ (a : Option Addr) (cap : Nat) (hs : List Hd), e = .returned (.slice a hs.length cap) ∧ hs.length ≤ 6 ∧ hs.length ≤ cap ∧ IsHs w' a hs ∧ Below w.heap.size w w'
set_option maxHeartbeats 2000000 in
theorem drawUnitsOf (a : Option Addr) (len cap : Nat) (zs : List Int) (w : World) (h : IsRow .u8 w a len cap zs) :
    Calls Try.prog 35 #[.slice a len cap] w (DrawnUnitsOf w) := by
  go_enter Try.func35, Try.ntmps35
  go_wp2_with fail
  refine (newReader_any a len cap zs _ h).mono ?_
  rintro e w1 ⟨rfl, hR1, hB1, hb1⟩
  have G1 := g_below (Below.refl w1.heap.size w1) (some w.heap.size)
  clear h
  go_wp2_with fail
  refine (anyHd w.heap.size _ _ hR1 (by omega) hb1).mono ?_
  rintro e w2 ⟨b, cp, hs, rfl, hl, hlc, hi, hblk, hR2, hG2⟩
  have hb2 := Nat.lt_of_lt_of_le hb1 hG2.size
  have G2 := g_trans G1 hG2
  clear hG2 hR1 G1
  have hB := g_madeH hB1 G2
  clear G2 hR2
  go_wp2_with fail
  go_ret
  exact ⟨b, cp, hs, rfl, hl, hlc, hi, hB⟩

def DrawnShareOf (w : World) (e : Ending) (w' : World) : Prop := ∃ (a : Option Addr) (cap : Nat) (hs : List Hd) (o : Int), e = .returned (.tuple #[.slice a hs.length cap, .int .i64 o]) ∧ hs.length ≤ 6 ∧ hs.length ≤ cap ∧ IsHs w' a hs ∧ Below w.heap.size w w'
set_option maxHeartbeats 2000000 in
theorem drawShareOf (a : Option Addr) (len cap : Nat) (zs : List Int) (w : World) (h : IsRow .u8 w a len cap zs) :
    Calls Try.prog 16 #[.slice a len cap] w (DrawnShareOf w) := by
  go_enter Try.func16, Try.ntmps16
  go_wp2_with fail
  refine (newReader_any a len cap zs _ h).mono ?_
  rintro e w1 ⟨rfl, hR1, hB1, hb1⟩
  have G1 := g_below (Below.refl w1.heap.size w1) (some w.heap.size)
  clear h
  go_wp2_with fail
  refine (anyHd w.heap.size _ _ hR1 (by omega) hb1).mono ?_
  rintro e w2 ⟨b, cp, hs, rfl, hl, hlc, hi, hblk, hR2, hG2⟩
  have hb2 := Nat.lt_of_lt_of_le hb1 hG2.size
  have G2 := g_trans G1 hG2
  clear hG2 hR1 G1
  go_wp2_with fail
  refine (anOwner w.heap.size _ b cp w1.heap.size hs _ hR2 (by omega) hb2 hi (by omega) hblk hb1).mono ?_
  rintro e w3 ⟨o, rfl, hR3, hG3⟩
  have hb3 := Nat.lt_of_lt_of_le hb2 hG3.size
  have G3 := g_trans G2 hG3
  replace hi := hs_grown hi hblk hb1 hG3
  clear hG3 hR2 G2
  have hB := g_madeH hB1 G3
  clear G3 hR3
  go_wp2_with fail
  go_returns
  exact ⟨b, cp, hs, o, rfl, hl, hlc, hi, hB⟩

def DrawnJoinShares (w : World) (e : Ending) (w' : World) : Prop := ∃ (a : Option Addr) (cap : Nat) (hs : List Hd) (o q : Int), e = .returned (.tuple #[.slice a hs.length cap, .int .i64 o, .int .i64 q]) ∧ hs.length ≤ 6 ∧ hs.length ≤ cap ∧ IsHs w' a hs ∧ Below w.heap.size w w'
set_option maxHeartbeats 2000000 in
theorem drawJoinShares (a : Option Addr) (len cap : Nat) (zs : List Int) (w : World) (h : IsRow .u8 w a len cap zs) :
    Calls Try.prog 27 #[.slice a len cap] w (DrawnJoinShares w) := by
  go_enter Try.func27, Try.ntmps27
  go_wp2_with fail
  refine (newReader_any a len cap zs _ h).mono ?_
  rintro e w1 ⟨rfl, hR1, hB1, hb1⟩
  have G1 := g_below (Below.refl w1.heap.size w1) (some w.heap.size)
  clear h
  go_wp2_with fail
  refine (anyHd w.heap.size _ _ hR1 (by omega) hb1).mono ?_
  rintro e w2 ⟨b, cp, hs, rfl, hl, hlc, hi, hblk, hR2, hG2⟩
  have hb2 := Nat.lt_of_lt_of_le hb1 hG2.size
  have G2 := g_trans G1 hG2
  clear hG2 hR1 G1
  go_wp2_with fail
  refine (anOwner w.heap.size _ b cp w1.heap.size hs _ hR2 (by omega) hb2 hi (by omega) hblk hb1).mono ?_
  rintro e w3 ⟨o, rfl, hR3, hG3⟩
  have hb3 := Nat.lt_of_lt_of_le hb2 hG3.size
  have G3 := g_trans G2 hG3
  replace hi := hs_grown hi hblk hb1 hG3
  clear hG3 hR2 G2
  go_wp2_with fail
  refine (anOwner w.heap.size _ b cp w1.heap.size hs _ hR3 (by omega) hb3 hi (by omega) hblk hb1).mono ?_
  rintro e w4 ⟨q, rfl, hR4, hG4⟩
  have hb4 := Nat.lt_of_lt_of_le hb3 hG4.size
  have G4 := g_trans G3 hG4
  replace hi := hs_grown hi hblk hb1 hG4
  clear hG4 hR3 G3
  have hB := g_madeH hB1 G4
  clear G4 hR4
  go_wp2_with fail
  go_returns
  exact ⟨b, cp, hs, o, q, rfl, hl, hlc, hi, hB⟩
end Go.Proofs.Ytppnhhnilnikfaa
