/- What the laws on wishes draw. No condition but those stated. -/
import Derived.Test.YtpkjnhpgeajgoaaDrawWd
import Derived.Test.YtpkjnhpgeajgoaaRankI
namespace Go.Proofs.Ytpkjnhpgeajgoaa
open Go.RowKit
set_option linter.unusedSimpArgs false
set_option linter.unusedVariables false
theorem g_madeW {w w1 w2 : World} (h : Below w.heap.size w w1) (hG : w1.grownBy w2 (some w.heap.size)) : Below w.heap.size w w2 := below_grown h hG (Nat.le_refl _)
def DrawnWs (w : World) (e : Ending) (w' : World) : Prop := ∃ (a : Option Addr) (cap : Nat) (rs : List (List Int)), e = .returned (.slice a rs.length cap) ∧ rs.length ≤ 8 ∧ rs.length ≤ cap ∧ IsRows w' a rs ∧ Below w.heap.size w w'
set_option maxHeartbeats 2000000 in
theorem drawValidWishes (a : Option Addr) (len cap : Nat) (zs : List Int) (w : World) (h : IsRow .u8 w a len cap zs) :
    Calls Try.prog 8 #[.slice a len cap] w (DrawnWs w) := by
  go_enter Try.func8, Try.ntmps8
  go_wp2_with fail
  refine (newReader_any a len cap zs _ h).mono ?_
  rintro e w1 ⟨rfl, hR1, hB1, hb1⟩
  clear h
  go_wp2_with fail
  refine (anyWs w.heap.size _ _ hR1 (by omega) hb1).mono ?_
  rintro e w2 ⟨v, n, rv, rfl, n8, hO, hrl, hrows, hR2, hG2⟩
  have hB := g_madeW hB1 hG2
  obtain ⟨b, cp, rs, rfl, hl, hc, hi⟩ := rows_of hO hrl hrows
  have HI := Lib.hid hi
  clear hO hrows hR2 hG2 hi
  go_wp2_with fail
  go_ret
  exact ⟨b, cp, rs, by rw [hl]; rfl, by omega, hc, HI.out, hB⟩
def DrawnRk (w : World) (e : Ending) (w' : World) : Prop := ∃ (a : Option Addr) (cap : Nat) (rs : List (List Int)) (i t : Int), e = .returned (.tuple #[.slice a rs.length cap, .int .i64 i, .int .i64 t]) ∧ rs.length ≤ 8 ∧ rs.length ≤ cap ∧ IsRows w' a rs ∧ Below w.heap.size w w'
set_option maxHeartbeats 2000000 in
theorem drawRankOf (a : Option Addr) (len cap : Nat) (zs : List Int) (w : World) (h : IsRow .u8 w a len cap zs) :
    Calls Try.prog 18 #[.slice a len cap] w (DrawnRk w) := by
  go_enter Try.func18, Try.ntmps18
  go_wp2_with fail
  refine (newReader_any a len cap zs _ h).mono ?_
  rintro e w1 ⟨rfl, hR1, hB1, hb1⟩
  clear h
  go_wp2_with fail
  refine (anyWs w.heap.size _ _ hR1 (by omega) hb1).mono ?_
  rintro e w2 ⟨v, n, rv, rfl, n8, hO, hrl, hrows, hR2, hG2⟩
  have hb2 := Nat.lt_of_lt_of_le hb1 hG2.size
  have HO := Lib.hid hO
  have HROWS := Lib.hid hrows
  clear hO hrows
  go_wp2_with fail
  refine (one_lit w.heap.size 5 _ (-1) 9 [0, 1, 2, -1, 9] _ w2 hR2 (by omega) hb2 rfl (by omega) (by omega) (by simp)).mono ?_
  rintro e w3 ⟨i, rfl, i0, i1, hR3, hG3⟩
  have hb3 := Nat.lt_of_lt_of_le hb2 hG3.size
  go_wp2_with fail
  refine (one_lit w.heap.size 6 _ (-1) 9 [0, 1, 2, 3, -1, 9] _ w3 hR3 (by omega) hb3 rfl (by omega) (by omega) (by simp)).mono ?_
  rintro e w4 ⟨t, rfl, t0, t1, hR4, hG4⟩
  have hB := g_madeW hB1 (g_trans hG2 (g_trans hG3 hG4))
  have hO4 := HO.out.kept (g_trans hG3 hG4) (.inr (by intro e; have := (HO.out.lt _ e).1; omega))
  obtain ⟨b, cp, rs, rfl, hl, hc, hi⟩ := rows_of hO4 hrl (fun j hj => rowok_grow (HROWS.out j hj) (g_trans hG3 hG4))
  have HI := Lib.hid hi
  clear hO4 hR2 hG2 hi hR3 hG3 hR4 hG4 HO HROWS
  go_wp2_with fail
  go_returns
  exact ⟨b, cp, rs, i, t, by rw [hl]; rfl, by omega, hc, HI.out, hB⟩
end Go.Proofs.Ytpkjnhpgeajgoaa
