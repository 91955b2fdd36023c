/- What the law on heirs draws. No condition but those stated. -/
import Derived.Test.YtppnhhnilnikfaaDrawHg
namespace Go.Proofs.Ytppnhhnilnikfaa
open Go.RowKit
set_option linter.unusedSimpArgs false
set_option linter.unusedVariables false

def DrawnInherit (w : World) (e : Ending) (w' : World) : Prop := ∃ (a : Option Addr) (cap : Nat) (hs : List Hd) (o : Int) (A : Option Addr) (capz : Nat) (zs : List Int), e = .returned (.tuple #[.slice a hs.length cap, .int .i64 o, .slice A zs.length capz]) ∧ hs.length ≤ 6 ∧ hs.length ≤ cap ∧ IsHs w' a hs ∧ zs.length ≤ 4 ∧ zs.length ≤ capz ∧ IsInts w' A zs ∧ Below w.heap.size w w'
set_option maxHeartbeats 2000000 in
theorem drawInheritShare (a : Option Addr) (len cap : Nat) (zs : List Int) (w : World) (h : IsRow .u8 w a len cap zs) :
    Calls Try.prog 23 #[.slice a len cap] w (DrawnInherit w) := by
  go_enter Try.func23, Try.ntmps23
  go_wp2_with fail
  refine (newReader_any a len cap zs _ h).mono ?_
  rintro e w1 ⟨rfl, hR1, hB1, hb1⟩
  have G1 := g_below (Below.refl w1.heap.size w1) (some w.heap.size)
  clear h
  go_wp2_with fail
  refine (anyHd w.heap.size _ _ hR1 (by omega) hb1).mono ?_
  rintro e w2 ⟨b, cp, hs, rfl, hl, hlc, hi, hblk, hR2, hG2⟩
  have hb2 := Nat.lt_of_lt_of_le hb1 hG2.size
  have G2 := g_trans G1 hG2
  clear hG2 hR1 G1
  go_wp2_with fail
  refine (anOwner w.heap.size _ b cp w1.heap.size hs _ hR2 (by omega) hb2 hi (by omega) hblk hb1).mono ?_
  rintro e w3 ⟨o, rfl, hR3, hG3⟩
  have hb3 := Nat.lt_of_lt_of_le hb2 hG3.size
  have G3 := g_trans G2 hG3
  replace hi := hs_grown hi hblk hb1 hG3
  clear hG3 hR2 G2
  go_wp2_with fail
  refine (someZ w.heap.size _ b cp w1.heap.size hs _ hR3 (by omega) hb3 hi (by omega) hblk hb1).mono ?_
  rintro e w4 ⟨A, cz, ys, rfl, hz4, hzc, hiz, _, hR4, hG4⟩
  have G4 := g_trans G3 hG4
  replace hi := hs_grown hi hblk hb1 hG4
  have hB := g_madeH hB1 G4
  clear hG4 hR3 G3 G4 hR4
  go_wp2_with fail
  go_returns
  exact ⟨b, cp, hs, o, A, cz, ys, rfl, hl, hlc, hi, hz4, hzc, hiz, hB⟩
end Go.Proofs.Ytppnhhnilnikfaa
