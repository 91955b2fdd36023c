/- Plots, by the program: valid ones, the greatest yield, the best ones, and what plots need. Condition: at most 1048576 plots. -/
import Derived.Test.YtigapnbpgbfbhacPloP
import Derived.Test.YtigapnbpgbfbhacGrA
import Derived.Deep.RegionHeld3
import Derived.Deep.QuietTactic
namespace Go.Proofs.Ytigapnbpgbfbhac
open Go.RowKit
set_option linter.unusedSimpArgs false
set_option linter.unusedVariables false
set_option maxRecDepth 100000 in
set_option maxHeartbeats 8000000 in
/-- impl.ValidPlots -/
theorem iVP (a : Option Addr) (cap : Nat) (ps : List Pl) (w : World) (h : IsPl w a ps) (hn : ps.length ≤ 1048576) :
    Calls Try.prog 15 #[.slice a ps.length cap] w fun e w' => e = .returned (.bool (vpB ps)) ∧ Below w.heap.size w w' := by
  by_cases h10 : 10 < ps.length
  · have e1 : decide (10 < (ps.length : Int)) = true := by simp; omega
    have HN := Lib.hid (vp_no1 h10)
    clear h10 h
    go_enter Try.func15, Try.ntmps15
    go_wp2_with fail
    go_ret
    exact ⟨ret_bool HN.out.symm, by go_grown⟩
  have e1 : decide (10 < (ps.length : Int)) = false := by simp; omega
  have HE : Hid ((∀ k, k < ps.length → plotB (ps.getD k pl0) = true) → vpB ps = true) := fun q => vp_yes (by omega) q
  have l10 : ps.length ≤ 10 := by omega
  clear h10
  rcases h with rfl | ⟨g, o, rfl, hc⟩
  · have HV := Lib.hid (HE.out (fun k hk => absurd hk (Nat.not_lt_zero _)))
    go_enter Try.func15, Try.ntmps15
    go_wp2_with fail
    go_rounds 1
    go_ret
    exact ⟨ret_bool HV.out.symm, by go_grown⟩
  have HC := Lib.hid hc
  clear hc
  go_enter Try.func15, Try.ntmps15
  go_wp2_with fail
  go_loopw [10] (fun i wr => ∃ k : Nat, k ≤ ps.length ∧ i = .int .i64 k ∧ Hid (∀ j, j < k → plotB (ps.getD j pl0) = true) ∧ Below w.heap.size w wr) (fun i _ => ps.length - (intOf i).toNat)
  case atStart => exact ⟨0, Nat.zero_le _, rfl, (fun j hj => absurd hj (Nat.not_lt_zero _)), by go_grown⟩
  case round =>
    obtain ⟨k, hk, rfl, HA, hB⟩ := hrel
    by_cases hlt : k < ps.length
    · obtain ⟨c0, c1⟩ := pl_at HC.out hB hlt
      have hno := vp_no2 (ps := ps) hlt
      have hyes : plotB (ps.getD k pl0) = true → ∀ j, j < k + 1 → plotB (ps.getD j pl0) = true := fun e => rng_more HA.out e
      generalize ps.getD k pl0 = r at c0 c1 hno hyes
      obtain ⟨x0, x1⟩ := r
      dsimp only at c0 c1
      have HB := Lib.hid hB
      have HNO := Lib.hid hno
      have HYE := Lib.hid hyes
      have k0 : (0 : Int) ≤ (k : Int) := by omega
      have k1 : (k : Int) < (ps.length : Int) := by omega
      clear hno hyes hB HA
      by_cases q0 : 0 ≤ x0 ∧ x0 ≤ 500
      · by_cases q1 : 1 ≤ x1
        · by_cases q2 : x1 ≤ 1000
          · have HV := Lib.hid (HYE.out ((plotB_iff _).2 ⟨q0, q1, q2⟩))
            have dq1 : decide (x1 < 1) = false := decide_eq_false (by omega)
            have dq2 : decide (1000 < x1) = false := decide_eq_false (by omega)
            go_wp2_with fail
            refine (iwithin_yes x0 500 _ q0.1 q0.2).mono ?_
            rintro e w' ⟨rfl, rfl⟩
            go_wp2_with fail
            go_roundw
            case rel => exact ⟨k + 1, by omega, by go_num, HV.out, HB.out.alloc HB.out.size _⟩
            case measure => simp [intOf]; omega
          · have HV := Lib.hid (HNO.out (plotB_no (fun c => q2 c.2.2)))
            have dq1 : decide (x1 < 1) = false := decide_eq_false (by omega)
            have dq2 : decide (1000 < x1) = true := decide_eq_true (by omega)
            go_wp2_with fail
            refine (iwithin_yes x0 500 _ q0.1 q0.2).mono ?_
            rintro e w' ⟨rfl, rfl⟩
            go_wp2_with fail
            go_ret
            exact ⟨ret_bool HV.out.symm, HB.out.alloc HB.out.size _⟩
        · have HV := Lib.hid (HNO.out (plotB_no (fun c => q1 c.2.1)))
          have dq1 : decide (x1 < 1) = true := decide_eq_true (by omega)
          go_wp2_with fail
          refine (iwithin_yes x0 500 _ q0.1 q0.2).mono ?_
          rintro e w' ⟨rfl, rfl⟩
          go_wp2_with fail
          go_ret
          exact ⟨ret_bool HV.out.symm, HB.out.alloc HB.out.size _⟩
      · have HV := Lib.hid (HNO.out (plotB_no (fun c => q0 c.1)))
        go_wp2_with fail
        refine (iwithin_no x0 500 _ (by omega)).mono ?_
        rintro e w' ⟨rfl, rfl⟩
        go_wp2_with fail
        go_ret
        exact ⟨ret_bool HV.out.symm, HB.out.alloc HB.out.size _⟩
    · have HV := Lib.hid (HE.out (fun j hj => HA.out j (by omega)))
      have HB := Lib.hid hB
      clear hB HA
      go_wp2_with fail
      go_ret
      exact ⟨ret_bool HV.out.symm, HB.out⟩
set_option maxRecDepth 100000 in
set_option maxHeartbeats 8000000 in
/-- impl.BestYield -/
theorem iBY (a : Option Addr) (cap : Nat) (ps : List Pl) (q : Int) (w : World) (h : IsPl w a ps) (hn : ps.length ≤ 1048576) :
    Calls Try.prog 18 #[.slice a ps.length cap, .int .i64 q] w fun e w' => e = .returned (.int .i64 (byV ps q)) ∧ Below w.heap.size w w' := by
  have CV := iVP a cap ps w h hn
  cases hv : vpB ps with
  | false =>
    rw [hv] at CV
    have HN : Hid (wpB ps q = false) := by show _ = _; unfold wpB; rw [hv]; rfl
    clear hv h
    go_enter Try.func18, Try.ntmps18
    go_wp2_with fail
    refine CV.mono ?_
    rintro e w1 ⟨rfl, C⟩
    clear CV
    go_wp2_with fail
    go_ret
    exact ⟨ret_int (byV_no HN.out).symm, C⟩
  | true =>
  rw [hv] at CV
  by_cases hq : 0 ≤ q ∧ q ≤ 500
  rotate_left
  · have HN : Hid (wpB ps q = false) := by
      show _ = _
      cases e : wpB ps q with
      | false => rfl
      | true => exact absurd (wp_is e).2 hq
    have hq2 : q < 0 ∨ 500 < q := by omega
    clear hv h hq
    go_enter Try.func18, Try.ntmps18
    go_wp2_with fail
    refine CV.mono ?_
    rintro e w1 ⟨rfl, C⟩
    clear CV
    go_wp2_with fail
    refine (iwithin_no q 500 _ hq2).mono ?_
    rintro e w' ⟨rfl, rfl⟩
    go_wp2_with fail
    go_ret
    exact ⟨ret_int (byV_no HN.out).symm, C⟩
  have HW := Lib.hid (wp_yes hv hq.1 hq.2)
  obtain ⟨M, hM⟩ : ∃ M : Nat, q = (M : Int) := ⟨q.toNat, by omega⟩
  subst hM
  rw [byV_yes HW.out]
  obtain ⟨q0, q1⟩ := hq
  have M5 : M ≤ 500 := by omega
  have hmk := run_make_row' (P := Try.prog) 31 3 (.int .i64 0) 8 Try.underlying31 infoInt rfl .i64 .i64 (M + 1) (by omega) (by omega)
  rw [show ((M + 1 : Nat) : Int) = (M : Int) + 1 from by omega] at hmk
  have wM : IntKind.i64.wrap ((M : Int) + 1) = (M : Int) + 1 := by rw [IntKind.wrap_i64]; omega
  have l10 := (vp_is hv).1
  have HVA : Hid (∀ k, k < ps.length → (0 ≤ (ps.getD k pl0).1 ∧ (ps.getD k pl0).1 ≤ 500) ∧ (1 ≤ (ps.getD k pl0).2 ∧ (ps.getD k pl0).2 ≤ 1000)) := fun k hk => vp_at hv hk
  have HBD : Hid (∀ k x, k ≤ ps.length → 0 ≤ yT ps k x ∧ yT ps k x ≤ 10000) := fun k x hk => by have := yT_bd hv k x hk; omega
  have HIS := Lib.hid h
  clear hv h HW
  go_enter Try.func18, Try.ntmps18
  go_wp2_with fail
  refine CV.mono ?_
  rintro e w1 ⟨rfl, C⟩
  clear CV
  go_wp2_with fail
  refine (iwithin_yes (M : Int) 500 _ q0 q1).mono ?_
  rintro e w' ⟨rfl, rfl⟩
  have HO := Lib.hid (OwnI.made C (M + 1) (by omega))
  have HB := Lib.hid (C.alloc C.size (.cells (madeCells #[.int .i64 0] (M + 1)) 3))
  have hgb := C.size
  clear C
  go_wp2_with fail
  clear hmk
  generalize w1.alloc (.cells (madeCells #[.int .i64 0] (M + 1)) 3) = w2 at HO HB ⊢
  generalize w1.heap.size = g at HO hgb ⊢
  rw [← rowY_zero ps M] at HO
  go_wp2_with fail
  go_loopw [23] (fun i wr => ∃ k : Nat, k ≤ ps.length ∧ i = .int .i64 k ∧ OwnI wr w.heap.size (.slice (some ⟨g, 0, none⟩) (M + 1) (M + 1)) (rowY ps M k) ∧ Below w.heap.size w wr) (fun i _ => ps.length - (intOf i).toNat)
  case atStart => exact ⟨0, Nat.zero_le _, rfl, HO.out, HB.out⟩
  case round =>
    clear HO HB
    obtain ⟨k, hk, rfl, hO, hB⟩ := hrel
    by_cases hlt : k < ps.length
    · have hpl := pl_below HIS.out hB
      rcases hpl with hnil | ⟨ga, oa, rfl, hc⟩
      · rw [hnil] at hlt; exact absurd hlt (Nat.not_lt_zero _)
      obtain ⟨c0, c1⟩ := hc k hlt
      obtain ⟨⟨v0, v1⟩, v2, v3⟩ := HVA.out k hlt
      have HY1 : Hid (∀ u : Nat, (ps.getD k pl0).1 ≤ (u : Int) → yT ps (k + 1) u = max (yT ps k u) (yT ps k (u - (ps.getD k pl0).1.toNat) + (ps.getD k pl0).2)) := fun u e => yT_yes e
      have HEN : Hid (∀ u : Int, u < (ps.getD k pl0).1 → rowT ps M k u = rowY ps M (k + 1)) := fun u e => rowT_end e
      have HBK : Hid (∀ x, 0 ≤ yT ps k x ∧ yT ps k x ≤ 10000) := fun x => HBD.out k x (by omega)
      have k0 : (0 : Int) ≤ (k : Int) := by omega
      have kx : (k : Int) < (ps.length : Int) := by omega
      generalize ps.getD k pl0 = r at c0 c1 v0 v1 v2 v3 HY1 HEN
      obtain ⟨x0, x1⟩ := r
      dsimp only at c0 c1 v0 v1 v2 v3 HY1 HEN
      obtain ⟨d, hd⟩ : ∃ d : Nat, x0 = (d : Int) := ⟨x0.toNat, by omega⟩
      subst hd
      have hst : (.int .i64 (d : Int) : Value) = .int .i64 (d : Int) := rfl
      have HK := Lib.hid (Blk.new wr 45 #[.int .i64 (d : Int), .int .i64 x1])
      have HO1 := Lib.hid (hO.of_block ((Below.refl wr.heap.size wr).alloc (Nat.le_refl _) (.cells #[.int .i64 (d : Int), .int .i64 x1] 45)))
      have HB1 := Lib.hid (hB.alloc hB.size (.cells #[.int .i64 (d : Int), .int .i64 x1] 45))
      have hgg := hO.blk.2
      clear hc hO hB hst
      go_wp2_with fail
      generalize wr.alloc (.cells #[.int .i64 (d : Int), .int .i64 x1] 45) = wA at HK HO1 HB1 ⊢
      generalize wr.heap.size = gp at HK hgg ⊢
      clear c0 c1
      go_wp2_with fail
      go_loopw [8] (fun i wi => ∃ z : Int, z ≤ (M : Int) ∧ i = .int .i64 z ∧ Blk wi gp 45 #[.int .i64 (d : Int), .int .i64 x1] ∧ OwnI wi w.heap.size (.slice (some ⟨g, 0, none⟩) (M + 1) (M + 1)) (rowT ps M k z) ∧ Below w.heap.size w wi) (fun i _ => (intOf i - d + 1).toNat)
      case atStart =>
        exact ⟨(M : Int), Int.le_refl _, rfl, HK.out, by rw [rowT_start]; exact HO1.out, HB1.out⟩
      case round =>
        clear HK HO1 HB1
        obtain ⟨z, z1, rfl, hK, hO, hB⟩ := hrel
        obtain ⟨f0, f1, _, _, _⟩ := blk_two hK
        by_cases hz : (d : Int) ≤ z
        · obtain ⟨u, hu⟩ : ∃ u : Nat, z = (u : Int) := ⟨z.toNat, by omega⟩
          subst hu
          obtain ⟨m, hm⟩ : ∃ m : Nat, u = m + d := ⟨u - d, by omega⟩
          have hy := HY1.out u hz
          rw [show u - ((d : Int)).toNat = m from by omega] at hy
          have r1 := OwnI.cell hO (j := m) (by rw [rowT_len]; omega)
          rw [rowT_old (by omega) (by omega)] at r1
          have r2 := OwnI.cell hO (j := u) (by rw [rowT_len]; omega)
          rw [rowT_old (by omega) (by omega)] at r2
          have fz := OwnI.frozen hO u
          have b1 := HBK.out m
          have b2 := HBK.out u
          have HSA : Hid (yT ps (k + 1) u = yT ps k u → rowT ps M k (u : Int) = rowT ps M k ((u : Int) - 1)) := fun e => rowT_same (by omega) e
          have HSE : Hid ((rowT ps M k (u : Int)).set u (yT ps (k + 1) u) = rowT ps M k ((u : Int) - 1)) := rowT_set (by omega)
          generalize yT ps k m = A at r1 hy b1
          generalize yT ps k u = Bv at r2 hy b2 HSA
          have wA1 : IntKind.i64.wrap (A + x1) = A + x1 := by rw [IntKind.wrap_i64]; omega
          have wA2 : IntKind.i64.wrap ((u : Int) - (d : Int)) = (m : Int) := by rw [IntKind.wrap_i64]; omega
          have wA3 : IntKind.i64.wrap ((u : Int) - 1) = (u : Int) - 1 := by rw [IntKind.wrap_i64]; omega
          have m0 : (0 : Int) ≤ (m : Int) := by omega
          have m1 : (m : Int) < (M : Int) + 1 := by omega
          have u0 : (0 : Int) ≤ (u : Int) := by omega
          have u1 : (u : Int) < (M : Int) + 1 := by omega
          have dz : decide ((d : Int) ≤ (u : Int)) = true := decide_eq_true hz
          by_cases c : Bv < A + x1
          · have e1 : decide (Bv < A + x1) = true := decide_eq_true c
            rw [show max Bv (A + x1) = A + x1 from by omega] at hy
            have HX : Hid (∀ n, Blk ((wr.drewN n).setCell ⟨g, u, none⟩ (.int .i64 (A + x1))) gp 45 #[.int .i64 (d : Int), .int .i64 x1] ∧ OwnI ((wr.drewN n).setCell ⟨g, u, none⟩ (.int .i64 (A + x1))) w.heap.size (.slice (some ⟨g, 0, none⟩) (M + 1) (M + 1)) (rowT ps M k ((u : Int) - 1)) ∧ Below w.heap.size w ((wr.drewN n).setCell ⟨g, u, none⟩ (.int .i64 (A + x1)))) := fun n => by
              refine ⟨Blk.far (hK.drewN n) (by show gp ≠ g; omega) _, ?_, (below_drewN hB n).setCell (p := ⟨g, u, none⟩) hgb _⟩
              have := OwnI.set_ (show OwnI (wr.drewN n) w.heap.size (.slice (some ⟨g, 0, none⟩) (M + 1) (M + 1)) (rowT ps M k (u : Int)) from hO) u (A + x1)
              rw [← hy, HSE.out] at this
              rw [← hy]; exact this
            clear hK hO hB hy b1 b2 HSA HSE HY1 HEN HBK hm
            go_wp2_with fail
            go_quiet (fail)
            go_wp2_with fail
            go_roundw
            case rel => exact ⟨(u : Int) - 1, by omega, by go_num, (HX.out _).1, (HX.out _).2.1, (HX.out _).2.2⟩
            case measure => simp [intOf]; omega
          · have e1 : decide (Bv < A + x1) = false := decide_eq_false c
            rw [show max Bv (A + x1) = Bv from by omega] at hy
            have HX : Hid (∀ n, Blk (wr.drewN n) gp 45 #[.int .i64 (d : Int), .int .i64 x1] ∧ OwnI (wr.drewN n) w.heap.size (.slice (some ⟨g, 0, none⟩) (M + 1) (M + 1)) (rowT ps M k ((u : Int) - 1)) ∧ Below w.heap.size w (wr.drewN n)) := fun n => by
              refine ⟨hK.drewN n, ?_, below_drewN hB n⟩
              rw [← HSA.out hy]; exact hO
            clear hK hO hB hy b1 b2 HSA HSE HY1 HEN HBK hm
            go_wp2_with fail
            go_quiet (fail)
            go_wp2_with fail
            go_roundw
            case rel => exact ⟨(u : Int) - 1, by omega, by go_num, (HX.out _).1, (HX.out _).2.1, (HX.out _).2.2⟩
            case measure => simp [intOf]; omega
        · have dz : decide ((d : Int) ≤ z) = false := decide_eq_false hz
          rw [HEN.out z (by omega)] at hO
          have HX := Lib.hid (And.intro hO hB)
          clear hK hO hB
          go_wp2_with fail
          go_roundw
          case rel => exact ⟨k + 1, by omega, by go_num, HX.out.1, HX.out.2⟩
          case measure => simp [intOf]; omega
    · obtain rfl : k = ps.length := by omega
      have r1 := OwnI.cell hO (j := M) (by rw [rowY_len]; omega)
      rw [rowY_get (Nat.le_refl _)] at r1
      have u0 : (0 : Int) ≤ (M : Int) := by omega
      have u1 : (M : Int) < (M : Int) + 1 := by omega
      have HB := Lib.hid hB
      obtain ⟨V, hV⟩ : ∃ V, yT ps ps.length M = V := ⟨_, rfl⟩
      rw [hV] at r1
      have HV := Lib.hid hV
      clear hO hB hV
      go_wp2_with fail
      go_ret
      exact ⟨ret_int HV.out.symm, HB.out⟩
end Go.Proofs.Ytigapnbpgbfbhac
