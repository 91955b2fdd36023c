/- Draws of basins and of days. No condition but those stated. -/
import Derived.Test.YtigapnbpgbfbhacDrawFl
import Derived.Test.YtigapnbpgbfbhacGrA
import Derived.Deep.DeepCutAuto
namespace Go.Proofs.Ytigapnbpgbfbhac
open Go.RowKit
set_option linter.unusedSimpArgs false
set_option linter.unusedVariables false
/-- what anyBasin leaves -/
def AnyBa (w : World) (b : Nat) (P : Int) (e : Ending) (w' : World) : Prop := ∃ r h : Int, e = .returned (.agg #[.int .i64 r, .int .i64 h]) ∧ -1 ≤ r ∧ r ≤ 20001 ∧ 0 ≤ h ∧ h ≤ 20001 ∧ Rd w' b (P + 10) ∧ w.grownBy w' (some b)
set_option maxRecDepth 100000 in
set_option maxHeartbeats 8000000 in
/-- spec.anyBasin -/
theorem anyBa (b : Nat) (P : Int) (w : World) (h : Rd w b P) (hP : P ≤ 70000) (hb : b < w.heap.size) :
    Calls Try.prog 53 #[.pointer (some ⟨b, 0, none⟩)] w (AnyBa w b P) := by
  have K0 := Blk.new w 51 #[.int .i64 0, .int .i64 0]
  have R0 := rd_alloc h hb (.cells #[.int .i64 0, .int .i64 0] 51)
  have HG := Lib.hid (World.grownBy_alloc w (.cells #[.int .i64 0, .int .i64 0] 51) (some b))
  have nb : w.heap.size ≠ b := by omega
  clear h
  go_enter Try.func53, Try.ntmps53
  go_wp2_with fail
  have hs : w.heap.size + 1 = (w.alloc (.cells #[.int .i64 0, .int .i64 0] 51)).heap.size := by simp
  rw [hs]
  generalize w.alloc (.cells #[.int .i64 0, .int .i64 0] 51) = w1 at *
  refine (one_lit b 5 P 0 20000 [50, 20, 100, 0, 20000] _ w1 R0 (by omega) (by omega) rfl (by omega) (by omega) (by simp)).mono ?_
  rintro e w2 ⟨r, rfl, r0, r1, R2, G2⟩
  have K2 := K0.grown G2 (fun c => nb (Option.some.inj c))
  have HG2 := Lib.hid (g_trans HG.out G2)
  have hb2 : b < w2.heap.size := by have := G2.size; omega
  have K3 := K2.alloc (.cells #[.int .i64 r, .int .i64 0] 51)
  have J3 := Blk.new w2 51 #[.int .i64 r, .int .i64 0]
  have R3 := rd_alloc R2 hb2 (.cells #[.int .i64 r, .int .i64 0] 51)
  have G3 := g_trans HG2.out (World.grownBy_alloc w2 (.cells #[.int .i64 r, .int .i64 0] 51) (some b))
  have hb3 : b < (w2.alloc (.cells #[.int .i64 r, .int .i64 0] 51)).heap.size := by rw [World.size_alloc]; omega
  have nb3 : w2.heap.size ≠ b := by omega
  have lt3 : w.heap.size < w2.heap.size := K2.lt
  have HG3 := Lib.hid G3
  have HK3 := Lib.hid K3
  clear K0 K2 G2 R0 R2 HG HG2 G3 K3
  obtain ⟨s0, s1, s2, s3, s4⟩ := blk_two J3
  have d2 : Int.tdiv r 2 = r / 2 := Int.tdiv_eq_ediv_of_nonneg (by omega)
  have d3 : Int.tdiv r 3 = r / 3 := Int.tdiv_eq_ediv_of_nonneg (by omega)
  have z2 : IntKind.i64.wrap (r / 2) = r / 2 := by rw [IntKind.wrap_i64]; omega
  have z3 : IntKind.i64.wrap (r / 3) = r / 3 := by rw [IntKind.wrap_i64]; omega
  go_wp2_with fail
  have hs3 : w2.heap.size + 1 = (w2.alloc (.cells #[.int .i64 r, .int .i64 0] 51)).heap.size := by simp
  rw [hs3]
  generalize w2.alloc (.cells #[.int .i64 r, .int .i64 0] 51) = w3 at *
  refine (one_lit b 4 _ 0 20000 [0, r, r / 2, r / 3] _ w3 R3 (by omega) hb3 rfl (by omega) (by omega) (by simp; omega)).mono ?_
  rintro e w4 ⟨h, rfl, h0, h1, R4, G4⟩
  have HG4 := Lib.hid (g_trans HG3.out G4)
  have J4 := J3.grown G4 (fun c => nb3 (Option.some.inj c))
  have K4 := HK3.out.grown G4 (fun c => nb (Option.some.inj c))
  have HR4 := Lib.hid R4
  clear J3 HK3 HG3 R3 R4 G4 s0 s1 s2 s3 s4 d2 d3 z2 z3
  obtain ⟨s0, s1, s2, s3, s4⟩ := blk_two J4
  have J5 := J4.set_ 1 (.int .i64 h)
  have K5 := K4.far (p := ⟨w2.heap.size, 1, none⟩) (by show w.heap.size ≠ w2.heap.size; omega) (.int .i64 h)
  have B5 := (Below.refl w.heap.size w4).setCell (p := ⟨w2.heap.size, 1, none⟩) (by show w.heap.size ≤ w2.heap.size; omega) (.int .i64 h)
  have R5 := rd_end hb HR4.out rfl HG4.out B5
  have HK := Lib.hid (And.intro J5 K5)
  clear J4 K4 J5 K5 B5 HR4 HG4
  go_wp2_with fail
  clear s0 s1 s2 s3 s4
  generalize w4.setCell ⟨w2.heap.size, 1, none⟩ (.int .i64 h) = w5 at *
  refine (pick_any b _ 20 _ R5.1 (by omega)).mono ?_
  rintro e w6 ⟨v, rfl, hv, R6, G6⟩
  have HG6 := Lib.hid (g_trans R5.2 G6)
  have HR6 := Lib.hid R6
  have J6 := HK.out.1.grown G6 (fun c => nb3 (Option.some.inj c))
  have K6 := HK.out.2.grown G6 (fun c => nb (Option.some.inj c))
  clear HK R5 R6 G6 hv
  change Blk w6 w2.heap.size _ #[.int .i64 r, .int .i64 h] at J6
  by_cases v0 : v = 0
  · subst v0
    obtain ⟨s0, s1, s2, s3, s4⟩ := blk_two J6
    have J7 := J6.set_ 1 (.int .i64 (r + 1))
    have K7 := K6.far (p := ⟨w2.heap.size, 1, none⟩) (by show w.heap.size ≠ w2.heap.size; omega) (.int .i64 (r + 1))
    have B7 := (Below.refl w.heap.size w6).setCell (p := ⟨w2.heap.size, 1, none⟩) (by show w.heap.size ≤ w2.heap.size; omega) (.int .i64 (r + 1))
    have R7 := rd_end hb HR6.out rfl HG6.out B7
    have wz : IntKind.i64.wrap (r + 1) = r + 1 := by rw [IntKind.wrap_i64]; omega
    change Blk _ w2.heap.size _ #[.int .i64 r, .int .i64 (r + 1)] at J7
    go_upto_region 8 with fail
    clear s0 s1 s2 s3 s4 J6 K6 B7
    generalize w6.setCell ⟨w2.heap.size, 1, none⟩ (.int .i64 (r + 1)) = w7 at *
    obtain ⟨s0, s1, s2, s3, s4⟩ := blk_two J7
    obtain ⟨t0, t1, t2, t3, t4⟩ := blk_two K7
    obtain ⟨f0, f1, _, _, _⟩ := blk_two (K7.two (.int .i64 r) (.int .i64 (r + 1)))
    have BF := ((Below.refl w.heap.size w7).setCell (p := ⟨w.heap.size, 0, none⟩) (Nat.le_refl _) (.int .i64 r)).setCell (p := ⟨w.heap.size, 1, none⟩) (Nat.le_refl _) (.int .i64 (r + 1))
    have RF := Lib.hid (rd_end hb (rd_up (P' := P + 10) R7.1 (by omega)) rfl R7.2 BF)
    clear J7 K7 BF
    go_wp2_with fail
    refine bodyPost_ret (v := .agg #[.int .i64 r, .int .i64 (r + 1)]) (by simp [results, Try.results53, go_sem, f0, f1]) rfl ⟨r, (r + 1), rfl, by omega, by omega, by omega, by omega, RF.out.1, RF.out.2⟩
  have e0 : ((v : Int) == 0) = false := by rw [beq_eq_false_iff_ne]; omega
  have e00 : (v == 0) = false := by rw [beq_eq_false_iff_ne]; exact v0
  by_cases v1 : v = 1
  · subst v1
    go_wp2_with fail
    refine (one_lit b 2 _ (-1) 20001 [-1, 20001] _ w6 HR6.out (by omega) (Nat.lt_of_lt_of_le hb HG6.out.size) rfl (by omega) (by omega) (by simp)).mono ?_
    rintro e w7 ⟨q, rfl, q0, q1, R7, G7⟩
    have HG7 := g_trans HG6.out G7
    have J7 := J6.grown G7 (fun c => nb3 (Option.some.inj c))
    have K7 := K6.grown G7 (fun c => nb (Option.some.inj c))
    clear J6 K6 G7 HR6 HG6
    obtain ⟨s0, s1, s2, s3, s4⟩ := blk_two J7
    have J8 := J7.set_ 0 (.int .i64 q)
    have K8 := K7.far (p := ⟨w2.heap.size, 0, none⟩) (by show w.heap.size ≠ w2.heap.size; omega) (.int .i64 q)
    have B8 := (Below.refl w.heap.size w7).setCell (p := ⟨w2.heap.size, 0, none⟩) (by show w.heap.size ≤ w2.heap.size; omega) (.int .i64 q)
    have R8 := rd_end hb R7 rfl HG7 B8
    change Blk _ w2.heap.size _ #[.int .i64 q, .int .i64 h] at J8
    go_upto_region 8 with fail
    clear s0 s1 s2 s3 s4 J7 K7 B8 R7 HG7
    generalize w7.setCell ⟨w2.heap.size, 0, none⟩ (.int .i64 q) = w8 at *
    obtain ⟨s0, s1, s2, s3, s4⟩ := blk_two J8
    obtain ⟨t0, t1, t2, t3, t4⟩ := blk_two K8
    obtain ⟨f0, f1, _, _, _⟩ := blk_two (K8.two (.int .i64 q) (.int .i64 h))
    have BF := ((Below.refl w.heap.size w8).setCell (p := ⟨w.heap.size, 0, none⟩) (Nat.le_refl _) (.int .i64 q)).setCell (p := ⟨w.heap.size, 1, none⟩) (Nat.le_refl _) (.int .i64 h)
    have RF := Lib.hid (rd_end hb (rd_up (P' := P + 10) R8.1 (by omega)) rfl R8.2 BF)
    clear J8 K8 BF
    go_wp2_with fail
    refine bodyPost_ret (v := .agg #[.int .i64 q, .int .i64 h]) (by simp [results, Try.results53, go_sem, f0, f1]) rfl ⟨q, h, rfl, by omega, by omega, by omega, by omega, RF.out.1, RF.out.2⟩
  · have e1 : ((v : Int) == 1) = false := by rw [beq_eq_false_iff_ne]; omega
    have e11 : (v == 1) = false := by rw [beq_eq_false_iff_ne]; exact v1
    go_upto_region 8 with fail
    obtain ⟨s0, s1, s2, s3, s4⟩ := blk_two J6
    obtain ⟨t0, t1, t2, t3, t4⟩ := blk_two K6
    obtain ⟨f0, f1, _, _, _⟩ := blk_two (K6.two (.int .i64 r) (.int .i64 h))
    have BF := ((Below.refl w.heap.size w6).setCell (p := ⟨w.heap.size, 0, none⟩) (Nat.le_refl _) (.int .i64 r)).setCell (p := ⟨w.heap.size, 1, none⟩) (Nat.le_refl _) (.int .i64 h)
    have RF := Lib.hid (rd_end hb (rd_up (P' := P + 10) HR6.out (by omega)) rfl HG6.out BF)
    clear J6 K6 BF
    go_wp2_with fail
    refine bodyPost_ret (v := .agg #[.int .i64 r, .int .i64 h]) (by simp [results, Try.results53, go_sem, f0, f1]) rfl ⟨r, h, rfl, by omega, by omega, by omega, by omega, RF.out.1, RF.out.2⟩
theorem own_aside {w w' : World} {base : Nat} {v : Value} {zs : List Int} {row : Option Nat} (h : OwnI w base v zs) (hg : w.grownBy w' row) (hr : ∀ k, v.ownBlock = some k → row ≠ some k) : OwnI w' base v zs :=
  World.ownsRow.kept h hg (by
    cases e : v.ownBlock with
    | none => exact .inl rfl
    | some k => exact .inr (fun c => hr k e c.symm))
/-- what dayOf leaves -/
def DayOf (w : World) (b : Nat) (P : Int) (e : Ending) (w' : World) : Prop := ∃ (v1 v2 : Value) (cs ws : List Int), e = .returned (.tuple #[v1, v2]) ∧ cs.length ≤ 20 ∧ ws.length ≤ 21 ∧ (∀ z ∈ cs, -1 ≤ z ∧ z ≤ 501) ∧ (∀ z ∈ ws, 0 ≤ z ∧ z ≤ 40) ∧ OwnI w' w.heap.size v1 cs ∧ OwnI w' w.heap.size v2 ws ∧ Rd w' b (P + 160) ∧ w.grownBy w' (some b)
end Go.Proofs.Ytigapnbpgbfbhac
