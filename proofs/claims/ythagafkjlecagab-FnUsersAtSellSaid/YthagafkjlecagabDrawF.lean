/- The fractions that the laws draw: some fraction of 64-bit numbers. Condition: the reader has read at most 90000 numbers before. -/
import Derived.Test.YthagafkjlecagabGrA
import Derived.Test.YthagafkjlecagabRead
import Derived.Deep.RegionHeld3
import Derived.Deep.DeepCutAuto
namespace Go.Proofs.Ythagafkjlecagab
open Go.RowKit

/-- what someFrac and anyFrac leave: a fraction whose numbers are small -/
def FracOf (w : World) (b : Nat) (P L K : Int) (e : Ending) (w' : World) : Prop := ∃ x y : Int, e = .returned (.agg #[.int .i64 x, .int .i64 y]) ∧ L ≤ x ∧ x ≤ K ∧ L ≤ y ∧ y ≤ K ∧ Rd w' b P ∧ w.grownBy w' (some b)

set_option maxHeartbeats 1000000 in
theorem someFrac_any (b : Nat) (P : Int) (w : World) (h : Rd w b P) (hP : P ≤ 90000) (hb : b < w.heap.size) :
    Calls Try.prog 88 #[.pointer (some ⟨b, 0, none⟩)] w (FracOf w b (P + 3) 0 1000000) := by
  go_enter Try.func88, Try.ntmps88
  go_wp2_with fail
  refine (pick_any b P 60 _ (rd_alloc h hb _) (by omega)).mono ?_
  rintro e w1 ⟨v, rfl, hv, hR1, hG1⟩
  have k1 := c2_grown (c2_new w (.int .i64 0) (.int .i64 0) _) hG1 (by omega)
  have hG1 := g_new hG1
  have hb1 := Nat.lt_of_lt_of_le hb hG1.size
  have hv60 : (v : Int) < 60 := by omega
  clear hv
  go_wp2_with fail
  refine (one_lit b 10 (P + 1) 1 97 [2, 3, 4, 6, 8, 12, 5, 1, 97, 1 + (v : Int)] _ w1 hR1 (by omega) hb1 rfl (by omega) (by omega) (by simp; omega)).mono ?_
  rintro e w2 ⟨d, rfl, d0, d1, hR2, hG2⟩
  have k2 := c2_grown k1 hG2 (by omega)
  have hb2 := Nat.lt_of_lt_of_le hb1 hG2.size
  go_wp2_with fail
  refine (pick_any b (P + 1 + 1) (d + 1) _ hR2 (by omega)).mono ?_
  rintro e w3 ⟨u, rfl, hu, hR3, hG3⟩
  have k3 := c2_grown k2 hG3 (by omega)
  have hb3 := Nat.lt_of_lt_of_le hb2 hG3.size
  have hud : (u : Int) ≤ d := by omega
  clear hu
  go_wp2_with fail
  refine (sred u d _ (by omega) (by omega) (by omega) (by omega)).mono ?_
  rintro e w4 ⟨rfl, hB4⟩
  obtain ⟨c0, c1, f0, f1, hz⟩ := c2_below k3 hB4
  have hR4 := rd_below hR3 hb3 hB4
  have hG4 : w.grownBy w4 (some b) := g_trans (g_trans (g_trans hG1 hG2) hG3) (g_below hB4 _)
  obtain ⟨⟨q1, q2⟩, q3, q4⟩ := Wsh.red_bd (u := (u : Int)) (d := d) (Wsh.redB u d) (by omega) hud d0 (by omega)
  clear hR1 hR2 hR3 hG1 hG2 hG3 hB4 k1 k2 k3
  go_wp2_with fail
  refine bodyPost_ret (v := .agg #[.int .i64 (Wsh.qn (Wsh.redB u d) (Wsh.rn u d)), .int .i64 (Wsh.qn (Wsh.redB u d) (Wsh.rd u d))]) (by simp [results, Try.results88, go_sem, c0, c1, hz]) rfl ⟨_, _, rfl, by omega, by omega, by omega, by omega, rd_end hb hR4 (by omega) hG4 (by go_grown)⟩

set_option maxHeartbeats 1000000 in
theorem anyFrac_any (b : Nat) (P : Int) (w : World) (h : Rd w b P) (hP : P ≤ 80000) (hb : b < w.heap.size) :
    Calls Try.prog 86 #[.pointer (some ⟨b, 0, none⟩)] w (FracOf w b (P + 5) (-2000000) 2000000) := by
  go_enter Try.func86, Try.ntmps86
  go_wp2_with fail
  refine (someFrac_any b P _ (rd_alloc h hb _) (by omega) (by simp; omega)).mono ?_
  rintro e w1 ⟨x, y, rfl, x0, x1, y0, y1, hR1, hG1⟩
  have k1 := c2_grown (c2_new w (.int .i64 0) (.int .i64 0) _) hG1 (by omega)
  have hG1 := g_new hG1
  have hb1 := Nat.lt_of_lt_of_le hb hG1.size
  go_wp2_with fail
  have z1 := k1.2.2.2.2
  refine (pick_any b (P + 3) 16 _ (rd_alloc hR1 hb1 _) (by omega)).mono ?_
  rintro e w2 ⟨v, rfl, hv, hR2, hG2⟩
  have j2 := c2_grown (c2_new w1 (.int .i64 x) (.int .i64 y) _) hG2 (by omega)
  have k2 := c2_grown (c2_alloc k1 _) hG2 (by omega)
  have hG2 := g_new hG2
  have hb2 := Nat.lt_of_lt_of_le hb1 hG2.size
  have hGG := g_trans hG1 hG2
  clear hR1 k1
  have zne : w.heap.size ≠ w1.heap.size := by omega
  by_cases v0 : v = 0
  · have e0 : ((v : Int) == 0) = true := by simp [v0]
    clear v0 hv
    go_wp2_with fail
    refine (one_lit b 4 (P + 3 + 1) (-1) 10001 [0, 10001, 10000, -1] _ w2 hR2 (by omega) hb2 rfl (by omega) (by omega) (by simp)).mono ?_
    rintro e w3 ⟨d, rfl, d0, d1, hR3, hG3⟩
    obtain ⟨j0, j1, i0, i1, jz⟩ := c2_grown j2 hG3 (by omega)
    obtain ⟨c0, c1, f0, f1, hz⟩ := c2_grown k2 hG3 (by omega)
    have hG := g_trans hGG hG3
    clear hR2 hGG hG1 hG2 hG3 j2 k2
    go_wp2_with fail
    refine bodyPost_ret (v := .agg #[.int .i64 x, .int .i64 d]) (by simp [results, Try.results86, go_sem, c0, c1]) rfl ⟨_, _, rfl, by omega, by omega, by omega, by omega, rd_end hb hR3 (by omega) hG (by go_grown)⟩
  · have e0 : ((v : Int) == 0) = false := by simp; omega
    by_cases v1 : v = 1
    · have e1 : ((v : Int) == 1) = true := by simp [v1]
      clear v0 v1 hv
      obtain ⟨p0, p1, q0, q1, pz⟩ := j2
      go_wp2_with fail
      refine (one_lit b 3 (P + 3 + 1) (-1000000) 1000001 [-1, y + 1, 2] _ w2 hR2 (by omega) hb2 rfl (by omega) (by omega) (by simp; omega)).mono ?_
      rintro e w3 ⟨d, rfl, d0, d1, hR3, hG3⟩
      obtain ⟨j0, j1, i0, i1, jz⟩ := c2_grown (⟨p0, p1, q0, q1, pz⟩ : Cell2 w2 w1.heap.size (.int .i64 x) (.int .i64 y)) hG3 (by omega)
      obtain ⟨c0, c1, f0, f1, hz⟩ := c2_grown k2 hG3 (by omega)
      have hG := g_trans hGG hG3
      clear hR2 hGG hG1 hG2 hG3 k2 p0 p1 q0 q1
      go_wp2_with fail
      refine bodyPost_ret (v := .agg #[.int .i64 d, .int .i64 y]) (by simp [results, Try.results86, go_sem, c0, c1]) rfl ⟨_, _, rfl, by omega, by omega, by omega, by omega, rd_end hb hR3 (by omega) hG (by go_grown)⟩
    · have e1 : ((v : Int) == 1) = false := by simp; omega
      clear v0 v1 hv
      obtain ⟨j0, j1, i0, i1, jz⟩ := j2
      obtain ⟨c0, c1, f0, f1, hz⟩ := k2
      clear hG1 hG2
      have hR3 : Rd w2 b (P + 5) := rd_up hR2 (by omega)
      go_wp2_with fail
      refine bodyPost_ret (v := .agg #[.int .i64 x, .int .i64 y]) (by simp [results, Try.results86, go_sem, c0, c1]) rfl ⟨_, _, rfl, by omega, by omega, by omega, by omega, rd_end hb hR3 rfl hGG (by go_grown)⟩
end Go.Proofs.Ythagafkjlecagab
