/- Draws of customs that may be dead. Condition: the bytes as they came in. -/
import Derived.Test.YtigapnbpgbfbhabDrawRu
import Derived.StillTailTactics
namespace Go.Proofs.Ytigapnbpgbfbhab
open Go.RowKit
set_option linter.unusedSimpArgs false
set_option linter.unusedVariables false
set_option maxRecDepth 100000 in
set_option maxHeartbeats 8000000 in
theorem drawDR (a : Option Addr) (len cap : Nat) (zs : List Int) (w : World) (h : IsRow .u8 w a len cap zs) :
    Calls Try.prog 39 #[.slice a len cap] w (DrawnRu w) := by
  go_enter Try.func39, Try.ntmps39
  go_wp2_with fail
  refine (newReader_any a len cap zs _ h).mono ?_
  rintro e w1 ⟨rfl, hR1, hB1, hb1⟩
  clear h
  go_wp2_with fail
  refine (someRu w.heap.size _ _ hR1 (by omega) hb1).mono ?_
  rintro e w2 ⟨v, xs, rfl, l6, hO, hR2, hG2⟩
  have hb2 := Nat.lt_of_lt_of_le hb1 hG2.size
  have hB2 := below_grown hB1 hG2 (Nat.le_refl _)
  have hcp := own_capRu hO
  obtain ⟨b2, cp, rfl, hI⟩ := own_ru hO
  have hcp2 := hcp _ _ _ rfl
  clear hR1 hG2 hB1 hcp
  by_cases h1 : 1 < xs.length
  rotate_left
  · have HF := Lib.hid (And.intro hI hB2)
    have e1 : decide (1 < (xs.length : Int)) = false := decide_eq_false (by omega)
    have e2 : decide (1 < xs.length) = false := decide_eq_false (by omega)
    clear hI hB2 hO hR2
    go_wp2_with fail
    go_ret
    exact ⟨b2, cp, xs, rfl, l6, hcp2, HF.out.1, HF.out.2⟩
  have e1 : decide (1 < (xs.length : Int)) = true := decide_eq_true (by omega)
  have e2 : decide (1 < xs.length) = true := decide_eq_true h1
  clear hI
  go_wp2_with fail
  refine (pick_any w.heap.size _ 2 _ hR2 (by omega)).mono ?_
  rintro e w3 ⟨p, rfl, hp, hR3, hG3⟩
  have hB3 := below_grown hB2 hG3 (Nat.le_refl _)
  have hO3 := ru_kept hO hG3 hb1
  clear hR2 hG3 hB2 hO hp
  by_cases p0 : p = 0
  rotate_left
  · have e4 : ((p : Int) == 0) = false := beq_eq_false_iff_ne.2 (by omega)
    have e5 : (p == 0) = false := beq_eq_false_iff_ne.2 p0
    obtain ⟨b3, c3, hv, hI⟩ := own_ru hO3
    injection hv with q1 q2 q3
    subst q1
    subst q3
    clear q2
    have HF := Lib.hid (And.intro hI hB3)
    clear hI hB3 hO3 hR3 p0
    go_wp2_with fail
    go_ret
    exact ⟨b2, cp, xs, rfl, l6, hcp2, HF.out.1, HF.out.2⟩
  subst p0
  obtain ⟨gz, cq, hform, hgz, ltg⟩ := World.ownsRow.form hO3 (by omega)
  injection hform with q1 q2 q3
  subst q1
  subst q3
  clear q2
  obtain ⟨k, hk⟩ : ∃ k, xs.length = k + 1 := ⟨xs.length - 1, by omega⟩
  have hk1 : k < xs.length := by omega
  have hv0 := valsRu_get (xs := xs) (k := 0) (by omega)
  have hvk := valsRu_get (xs := xs) (k := k) hk1
  have hlen := valsRu_len xs
  have a0 := World.ownsRow.cellAt hO3 0 (by omega)
  have a2 := World.ownsRow.cellAt hO3 2 (by omega)
  rw [show (valsRu xs)[0]? = _ from hv0.1] at a0
  rw [show (valsRu xs)[2]? = _ from hv0.2.2.1] at a2
  have c0 := World.ownsRow.cellAt hO3 (k * 5) (by omega)
  have c1 := World.ownsRow.cellAt hO3 (k * 5 + 1) (by omega)
  have c2 := World.ownsRow.cellAt hO3 (k * 5 + 2) (by omega)
  have c3 := World.ownsRow.cellAt hO3 (k * 5 + 3) (by omega)
  have c4 := World.ownsRow.cellAt hO3 (k * 5 + 4) (by omega)
  rw [hvk.1] at c0
  rw [hvk.2.1] at c1
  rw [hvk.2.2.1] at c2
  rw [hvk.2.2.2.1] at c3
  rw [hvk.2.2.2.2] at c4
  have fz0 := World.ownsRow.frozenAt hO3 (k * 5)
  have fz1 := World.ownsRow.frozenAt hO3 (k * 5 + 1)
  have fz2 := World.ownsRow.frozenAt hO3 (k * 5 + 2)
  have fz3 := World.ownsRow.frozenAt hO3 (k * 5 + 3)
  have fz4 := World.ownsRow.frozenAt hO3 (k * 5 + 4)
  have hS := (World.ownsRow.stored (World.ownsRow.stored (World.ownsRow.stored (World.ownsRow.stored (World.ownsRow.stored (show w3.drew.ownsRow _ _ _ _ _ _ from hO3) (k * 5) (.int .i64 (xs.getD 0 ru0).1)).1 (k * 5 + 1) (.int .i64 (xs.getD 0 ru0).1)).1 (k * 5 + 2) (.int .i64 (xs.getD 0 ru0).2.2.1)).1 (k * 5 + 3) (.int .i64 (xs.getD 0 ru0).2.2.1)).1 (k * 5 + 4) (.int .i64 0)).1
  rw [valsRu_setA xs k _ _ _ _ _ hk1] at hS
  have hB := ((((((hB3.drew).setCell (p := ⟨gz, k * 5, none⟩) (by show w.heap.size ≤ gz; omega) (.int .i64 (xs.getD 0 ru0).1)).setCell (p := ⟨gz, k * 5 + 1, none⟩) (by show w.heap.size ≤ gz; omega) (.int .i64 (xs.getD 0 ru0).1)).setCell (p := ⟨gz, k * 5 + 2, none⟩) (by show w.heap.size ≤ gz; omega) (.int .i64 (xs.getD 0 ru0).2.2.1)).setCell (p := ⟨gz, k * 5 + 3, none⟩) (by show w.heap.size ≤ gz; omega) (.int .i64 (xs.getD 0 ru0).2.2.1)).setCell (p := ⟨gz, k * 5 + 4, none⟩) (by show w.heap.size ≤ gz; omega) (.int .i64 0))
  have hl2 : (xs.set k ((xs.getD 0 ru0).1, (xs.getD 0 ru0).1, (xs.getD 0 ru0).2.2.1, (xs.getD 0 ru0).2.2.1, 0)).length = xs.length := List.length_set
  generalize xs.set k ((xs.getD 0 ru0).1, (xs.getD 0 ru0).1, (xs.getD 0 ru0).2.2.1, (xs.getD 0 ru0).2.2.1, 0) = ys at hS hl2
  have HS := Lib.hid (And.intro hS hB)
  have HL2 := Lib.hid hl2
  have wz : IntKind.i64.wrap ((xs.length : Int) - 1) = (k : Int) := by rw [IntKind.wrap_i64]; omega
  have k0 : (0 : Int) ≤ (k : Int) := by omega
  have kx : (k : Int) < (xs.length : Int) := by omega
  have x0 : (0 : Int) < (xs.length : Int) := by omega
  have x0' : 0 < xs.length := by omega
  have HXK := Lib.hid hk
  generalize (xs.getD 0 ru0).1 = p1 at a0 HS
  generalize (xs.getD 0 ru0).2.2.1 = p2 at a2 HS
  generalize (xs.getD k ru0).1 = y0 at c0
  generalize (xs.getD k ru0).2.1 = y1 at c1
  generalize (xs.getD k ru0).2.2.1 = y2 at c2
  generalize (xs.getD k ru0).2.2.2.1 = y3 at c3
  generalize (xs.getD k ru0).2.2.2.2 = y4 at c4
  clear hS hB hO3 hB3 hR3 hv0 hvk hlen hl2 hk
  go_wp2_with fail
  refine wp_region_still_tail 20 (by kernel_rfl) (by kernel_rfl) ?_
  simp only [List.take_succ_cons, List.take_zero, List.drop_succ_cons, List.drop_zero]
  iterate 20 still_step
  refine wpStill_nil ?_
  change wpList _ _ _ _ _ w3.drew
  go_wp2_with fail
  go_ret
  obtain ⟨b3, c3', hv, hI⟩ := own_ru (show OwnRu _ w1.heap.size (.slice (some ⟨gz, 0, none⟩) xs.length cp) ys from by unfold OwnRu; rw [HL2.out]; exact HS.out.1)
  injection hv with q1 q2 q3
  subst q1
  subst q3
  exact ⟨some ⟨gz, 0, none⟩, cp, ys, by rw [HL2.out]; rfl, by rw [HL2.out]; exact l6, by rw [HL2.out]; exact hcp2, hI, HS.out.2⟩
end Go.Proofs.Ytigapnbpgbfbhab
