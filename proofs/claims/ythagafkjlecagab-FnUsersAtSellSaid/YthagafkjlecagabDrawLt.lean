/- The leases that the laws draw with their ledgers. No condition. -/
import Derived.Test.YthagafkjlecagabDrawLs
import Derived.Test.YthagafkjlecagabDrawHe
namespace Go.Proofs.Ythagafkjlecagab
open Go.RowKit
set_option linter.unusedSimpArgs false
set_option linter.unusedVariables false

def DrawnLz (w : World) (e : Ending) (w' : World) : Prop := ∃ (a A : Option Addr) (cap capz : Nat) (hs : List Hd) (ls : List Lr), e = .returned (.tuple #[.slice a hs.length cap, .slice A ls.length capz]) ∧ hs.length ≤ 6 ∧ hs.length ≤ cap ∧ ls.length ≤ 3 ∧ IsHs w' a hs ∧ IsLs w' A ls ∧ Below w.heap.size w w'
set_option maxHeartbeats 2000000 in
theorem drawLz (a : Option Addr) (len cap : Nat) (zs : List Int) (w : World) (h : IsRow .u8 w a len cap zs) :
    Calls Try.prog 20 #[.slice a len cap] w (DrawnLz w) := by
  go_enter Try.func20, Try.ntmps20
  go_wp2_with fail
  refine (newReader_any a len cap zs _ h).mono ?_
  rintro e w1 ⟨rfl, hR1, hB1, hb1⟩
  have G1 := g_below (Below.refl w1.heap.size w1) (some w.heap.size)
  clear h
  go_wp2_with fail
  refine (anyHd w.heap.size _ _ hR1 (by omega) hb1).mono ?_
  rintro e w2 ⟨b, cp, hs, rfl, hl, hlc, hi, hblk, hR2, hG2⟩
  have hb2 := Nat.lt_of_lt_of_le hb1 hG2.size
  have G2 := g_trans G1 hG2
  clear hG2 hR1 G1
  go_wp2_with fail
  refine (someLz w.heap.size _ b cp w1.heap.size hs _ hR2 (by omega) hb2 hi (by omega) hblk hb1).mono ?_
  rintro e w3 ⟨v, ls, rfl, hls, hO, hR3, hG3⟩
  obtain ⟨bz, cz, rfl, hZ, hzb⟩ := own_lz hO
  have hb3 := Nat.lt_of_lt_of_le hb2 hG3.size
  have G3 := g_trans G2 hG3
  replace hi := hs_grown hi hblk hb1 hG3
  have hB := below_grown hB1 G3 (Nat.le_refl _)
  clear hG3 hR2 G2 hO hR3 G3
  go_wp2_with fail
  go_returns
  exact ⟨b, bz, cp, cz, hs, ls, rfl, hl, hlc, hls, hi, hZ, hB⟩
def DrawnUs (w : World) (e : Ending) (w' : World) : Prop := ∃ (a A : Option Addr) (cap capz : Nat) (hs : List Hd) (ls : List Lr) (t : Int), e = .returned (.tuple #[.slice a hs.length cap, .slice A ls.length capz, .int .i64 t]) ∧ hs.length ≤ 6 ∧ hs.length ≤ cap ∧ ls.length ≤ 3 ∧ IsHs w' a hs ∧ IsLs w' A ls ∧ Below w.heap.size w w'
theorem lz_grown {w w' : World} {b base : Nat} {v : Value} {xs : List Lr} (h : OwnLz w base v xs) (hb : b < base) (hG : w.grownBy w' (some b)) : OwnLz w' base v xs := World.ownsRow.kept h hG (.inr (by intro c; have := (World.ownsRow.lt h b c).1; omega))
set_option maxHeartbeats 2000000 in
theorem drawUs (a : Option Addr) (len cap : Nat) (zs : List Int) (w : World) (h : IsRow .u8 w a len cap zs) :
    Calls Try.prog 24 #[.slice a len cap] w (DrawnUs w) := by
  go_enter Try.func24, Try.ntmps24
  go_wp2_with fail
  refine (newReader_any a len cap zs _ h).mono ?_
  rintro e w1 ⟨rfl, hR1, hB1, hb1⟩
  have G1 := g_below (Below.refl w1.heap.size w1) (some w.heap.size)
  clear h
  go_wp2_with fail
  refine (anyHd w.heap.size _ _ hR1 (by omega) hb1).mono ?_
  rintro e w2 ⟨b, cp, hs, rfl, hl, hlc, hi, hblk, hR2, hG2⟩
  have hb2 := Nat.lt_of_lt_of_le hb1 hG2.size
  have G2 := g_trans G1 hG2
  clear hG2 hR1 G1
  go_wp2_with fail
  refine (someLz w.heap.size _ b cp w1.heap.size hs _ hR2 (by omega) hb2 hi (by omega) hblk hb1).mono ?_
  rintro e w3 ⟨v, ls, rfl, hls, hO, hR3, hG3⟩
  obtain ⟨bz, cz, rfl, _, _⟩ := own_lz hO
  have hb3 := Nat.lt_of_lt_of_le hb2 hG3.size
  have G3 := g_trans G2 hG3
  replace hi := hs_grown hi hblk hb1 hG3
  have hw2 : w.heap.size < w2.heap.size := hb2
  clear hG3 hR2 G2
  go_wp2_with fail
  refine (pick_any w.heap.size _ 40 _ hR3 (by omega)).mono ?_
  rintro e w4 ⟨p, rfl, hp, hR4, hG4⟩
  have hb4 := Nat.lt_of_lt_of_le hb3 hG4.size
  have G4 := g_trans G3 hG4
  replace hi := hs_grown hi hblk hb1 hG4
  replace hO := lz_grown hO hw2 hG4
  clear hG4 hR3 G3
  have hp2 : (p : Int) ≤ 40 := by omega
  go_wp2_with fail
  refine (one_lit w.heap.size 5 _ (-1) 5001 [(p : Int), 0, 5000, 5001, -1] _ w4 hR4 (by omega) hb4 rfl (by omega) (by omega) (by simp; omega)).mono ?_
  rintro e w5 ⟨t, rfl, _, _, hR5, hG5⟩
  have G5 := g_trans G4 hG5
  replace hi := hs_grown hi hblk hb1 hG5
  replace hO := lz_grown hO hw2 hG5
  obtain ⟨b2, c2, e2, hZ, _⟩ := own_lz hO
  injection e2 with e3 _ e4
  subst e3 e4
  have hB := below_grown hB1 G5 (Nat.le_refl _)
  clear hG5 hR4 G4 hO hR5 G5
  go_wp2_with fail
  go_returns
  exact ⟨b, _, cp, _, hs, ls, t, rfl, hl, hlc, hls, hi, hZ, hB⟩
end Go.Proofs.Ythagafkjlecagab
