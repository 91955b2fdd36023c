/- What the laws draw: fractions, pairs of them, numbers with them. Condition: the code is a slice of bytes. -/
import Derived.Test.YtihogilepflegabDrawF
namespace Go.Proofs.Ytihogilepflegab
open Go.RowKit

def Drawn1 (w : World) (e : Ending) (w' : World) : Prop := ∃ x y : Int, e = .returned (.agg #[.int .i64 x, .int .i64 y]) ∧ Below w.heap.size w w'
def Drawn2 (w : World) (e : Ending) (w' : World) : Prop := ∃ x y u v : Int, e = .returned (.tuple #[.agg #[.int .i64 x, .int .i64 y], .agg #[.int .i64 u, .int .i64 v]]) ∧ Below w.heap.size w w'

set_option maxHeartbeats 1000000 in
theorem drawValid (a : Option Addr) (len cap : Nat) (zs : List Int) (w : World) (h : IsRow .u8 w a len cap zs) :
    Calls Try.prog 10 #[.slice a len cap] w (Drawn1 w) := by
  go_enter Try.func10, Try.ntmps10
  go_wp2_with fail
  refine (newReader_any a len cap zs _ (row_below h (by go_grown))).mono ?_
  rintro e w1 ⟨rfl, hR, hB, hb⟩
  have k1 := c2_below (c2_new w (.int .i64 0) (.int .i64 0) _) hB
  have hB1 : Below w.heap.size w w1 := bel_tr (by go_grown) hB
  simp only [World.size_alloc] at hR hb
  clear hB h
  go_wp2_with fail
  refine (anyFrac_any _ 0 _ hR (by omega) hb).mono ?_
  rintro e w2 ⟨x, y, rfl, x0, x1, y0, y1, hR2, hG2⟩
  obtain ⟨c0, c1, f0, f1, hz⟩ := c2_grown k1 hG2 (by omega)
  have hB2 := below_grown hB1 hG2 (by omega)
  clear hG2 hR2 hR k1
  go_wp2_with fail
  refine bodyPost_ret (v := .agg #[.int .i64 x, .int .i64 y]) (by simp [results, Try.results10, go_sem, c0, c1]) rfl ⟨_, _, rfl, by go_grown⟩

set_option maxHeartbeats 1000000 in
theorem drawAdd (a : Option Addr) (len cap : Nat) (zs : List Int) (w : World) (h : IsRow .u8 w a len cap zs) :
    Calls Try.prog 19 #[.slice a len cap] w (Drawn2 w) := by
  go_enter Try.func19, Try.ntmps19
  go_wp2_with fail
  refine (newReader_any a len cap zs _ (row_below h (by go_grown))).mono ?_
  rintro e w1 ⟨rfl, hR, hB, hb⟩
  have k1 := c2_below (c2_alloc (c2_new w (.int .i64 0) (.int .i64 0) _) _) hB
  have m1 := c2_below (c2_new (w.alloc _) (.int .i64 0) (.int .i64 0) _) hB
  have hB1 : Below w.heap.size w w1 := bel_tr (by go_grown) hB
  simp only [World.size_alloc] at hR hb m1
  clear hB h
  go_wp2_with fail
  refine (anyFrac_any _ 0 _ hR (by omega) hb).mono ?_
  rintro e w2 ⟨x, y, rfl, x0, x1, y0, y1, hR2, hG2⟩
  have k2 := c2_grown k1 hG2 (by omega)
  have m2 := c2_grown m1 hG2 (by omega)
  have hB2 := below_grown hB1 hG2 (by omega)
  have hb2 := Nat.lt_of_lt_of_le hb hG2.size
  clear hG2 hR k1 m1
  go_wp2_with fail
  refine (anyFrac_any _ _ _ hR2 (by omega) hb2).mono ?_
  rintro e w3 ⟨u, v, rfl, u0, u1, v0, v1, hR3, hG3⟩
  obtain ⟨c0, c1, f0, f1, hz⟩ := c2_grown k2 hG3 (by omega)
  obtain ⟨c2, c3, f2, f3, hz2⟩ := c2_grown m2 hG3 (by omega)
  have hB3 := below_grown hB2 hG3 (by omega)
  clear hG3 hR3 hR2 k2 m2
  go_wp2_with fail
  refine bodyPost_ret (v := .tuple #[.agg #[.int .i64 x, .int .i64 y], .agg #[.int .i64 u, .int .i64 v]]) (by simp [results, Try.results19, go_sem, c0, c1, c2, c3]) rfl ⟨_, _, _, _, rfl, by go_grown⟩

theorem drawCompare (a : Option Addr) (len cap : Nat) (zs : List Int) (w : World) (h : IsRow .u8 w a len cap zs) :
    Calls Try.prog 22 #[.slice a len cap] w (Drawn2 w) := by
  go_enter Try.func22, Try.ntmps22
  go_wp2_with fail
  refine (drawAdd a len cap zs _ (row_below h (by go_grown))).mono ?_
  rintro e w1 ⟨x, y, u, v, rfl, hB⟩
  obtain ⟨c0, c1, f0, f1, hz⟩ := c2_below (c2_alloc (c2_new w (.int .i64 0) (.int .i64 0) _) _) hB
  have m1 := c2_below (c2_new (w.alloc _) (.int .i64 0) (.int .i64 0) _) hB
  have hB1 : Below w.heap.size w w1 := bel_tr (by go_grown) hB
  simp only [World.size_alloc] at m1
  obtain ⟨c2, c3, f2, f3, hz2⟩ := m1
  clear hB h
  go_wp2_with fail
  refine bodyPost_ret (v := .tuple #[.agg #[.int .i64 x, .int .i64 y], .agg #[.int .i64 u, .int .i64 v]]) (by simp [results, Try.results22, go_sem, c0, c1, c2, c3]) rfl ⟨_, _, _, _, rfl, by go_grown⟩

theorem drawSub (a : Option Addr) (len cap : Nat) (zs : List Int) (w : World) (h : IsRow .u8 w a len cap zs) :
    Calls Try.prog 24 #[.slice a len cap] w (Drawn2 w) := by
  go_enter Try.func24, Try.ntmps24
  go_wp2_with fail
  refine (drawAdd a len cap zs _ (row_below h (by go_grown))).mono ?_
  rintro e w1 ⟨x, y, u, v, rfl, hB⟩
  obtain ⟨c0, c1, f0, f1, hz⟩ := c2_below (c2_alloc (c2_new w (.int .i64 0) (.int .i64 0) _) _) hB
  have m1 := c2_below (c2_new (w.alloc _) (.int .i64 0) (.int .i64 0) _) hB
  have hB1 : Below w.heap.size w w1 := bel_tr (by go_grown) hB
  simp only [World.size_alloc] at m1
  obtain ⟨c2, c3, f2, f3, hz2⟩ := m1
  clear hB h
  go_wp2_with fail
  refine bodyPost_ret (v := .tuple #[.agg #[.int .i64 x, .int .i64 y], .agg #[.int .i64 u, .int .i64 v]]) (by simp [results, Try.results24, go_sem, c0, c1, c2, c3]) rfl ⟨_, _, _, _, rfl, by go_grown⟩

theorem drawMul (a : Option Addr) (len cap : Nat) (zs : List Int) (w : World) (h : IsRow .u8 w a len cap zs) :
    Calls Try.prog 26 #[.slice a len cap] w (Drawn2 w) := by
  go_enter Try.func26, Try.ntmps26
  go_wp2_with fail
  refine (drawAdd a len cap zs _ (row_below h (by go_grown))).mono ?_
  rintro e w1 ⟨x, y, u, v, rfl, hB⟩
  obtain ⟨c0, c1, f0, f1, hz⟩ := c2_below (c2_alloc (c2_new w (.int .i64 0) (.int .i64 0) _) _) hB
  have m1 := c2_below (c2_new (w.alloc _) (.int .i64 0) (.int .i64 0) _) hB
  have hB1 : Below w.heap.size w w1 := bel_tr (by go_grown) hB
  simp only [World.size_alloc] at m1
  obtain ⟨c2, c3, f2, f3, hz2⟩ := m1
  clear hB h
  go_wp2_with fail
  refine bodyPost_ret (v := .tuple #[.agg #[.int .i64 x, .int .i64 y], .agg #[.int .i64 u, .int .i64 v]]) (by simp [results, Try.results26, go_sem, c0, c1, c2, c3]) rfl ⟨_, _, _, _, rfl, by go_grown⟩

/-- equalFrac of a fraction and itself -/
theorem lequal (n d : Int) (w : World) :
    Calls Try.prog 18 #[.agg #[.int .i64 n, .int .i64 d], .agg #[.int .i64 n, .int .i64 d]] w fun e w' => e = .returned (.bool true) ∧ Below w.heap.size w w' := by
  go_enter Try.func18, Try.ntmps18
  go_wp2
  go_ret
  exact ⟨rfl, by go_grown⟩
end Go.Proofs.Ytihogilepflegab
