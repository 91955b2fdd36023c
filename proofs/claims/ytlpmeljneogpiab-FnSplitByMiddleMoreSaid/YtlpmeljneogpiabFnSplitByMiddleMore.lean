/- For every input the law answers true, and its argument reads afterwards as before: one unit more is one unit more to one of the weights by middle averages, and twice the weights divide alike. No condition. -/
import Derived.Test.YtlpmeljneogpiabRows
import Derived.Test.YtlpmeljneogpiabHigh
import Derived.Test.YtlpmeljneogpiabAvgS
import Derived.WalkKit
import Derived.ProofKit
import Derived.OpenShut
import Derived.ShutString
import Derived.ChangeOld
import Derived.Below
import Derived.Lib.SmallJoins
namespace Go.Proofs.Ytlpmeljneogpiab.fnSplitByMiddleMore
open Go.ChangeShapes Go.WideShapes Go.ChangeAt Go.RowKit Go.Joins
open Go.ChangeMaps (open_string shut_string)
set_option linter.unusedVariables false

theorem own : ownKnob Try.prog.godebug = none := by kernel_rfl
theorem laidOut : laidOutB Try.prog = true := by kernel_rfl
theorem imiddleN (m : Nat) (n : Int) (a : Option Addr) (cap : Nat) (ws : List Int) (w : World) (hl : ws.length = m) (h : IsInts w a ws) (hn : m ≤ 1048576) (hcs : csB n ws = true) :
    Calls Try.prog 36 #[.int .i64 n, .slice a m cap] w (Divd m (sa 2 n ws) w) := by
  subst hl; exact imiddle n a cap ws w h hn hcs

set_option maxHeartbeats 4000000 in
theorem walk (a0 : Option Addr) (len0 cap0 : Nat) (z0 : List Int) (w : World) (w0 : IsRow .u8 w a0 len0 cap0 z0) :
    Calls Try.prog 11 #[.slice a0 len0 cap0] w fun e w' => e = .returned (.bool true) ∧ Below w.heap.size w w' := by
  by_cases big : (1048576 : Int) < (len0 : Int)
  · go_enter Try.func11, Try.ntmps11
    go_wp2
    go_ret
    exact ⟨rfl, Below.refl _ _⟩
  go_enter Try.func11, Try.ntmps11
  go_wp2_with fail
  refine (drawSplitByMiddle a0 len0 cap0 z0 _ w0).mono ?_
  rintro e u1 ⟨n, b, cp, xs, rfl, n0, n1, hl, hi, hz, B1⟩
  clear w0 big
  have hln : xs.length ≤ 1048576 := by omega
  have HI := Lib.hid hi
  have HZ := Lib.hid hz
  clear hi hz
  cases hcs : csB n xs with
  | false =>
    have HK := Lib.hid hcs
    clear hcs
    go_wp2_with fail
    refine (imiddle_no n _ _ xs _ HI.out hln HK.out).mono ?_
    rintro e w' ⟨rfl, rfl⟩
    go_wp2_with fail
    refine (smiddle_no n _ _ xs _ HI.out hln HK.out).mono ?_
    rintro e w' ⟨rfl, rfl⟩
    go_wp2_with fail
    refine (lequal none none 0 0 [] _ (.inl rfl) (.inl rfl) (by simp)).mono ?_
    rintro e u2 ⟨rfl, C2⟩
    have B2 := bel_tr B1 C2
    go_wp2_with fail
    refine (smiddle_no n _ _ xs _ (ints_below HI.out C2) hln HK.out).mono ?_
    rintro e w' ⟨rfl, rfl⟩
    go_wp2_with fail
    refine (lequal none none 0 0 [] _ (.inl rfl) (.inl rfl) (by simp)).mono ?_
    rintro e u3 ⟨rfl, C3⟩
    go_wp2_with fail
    go_ret
    exact ⟨rfl, bel_tr B2 C3⟩
  | true =>
    have hv := (cs_yes hcs).2
    have n00 := (cs_yes hcs).1.1
    have n01 := (cs_yes hcs).1.2
    have l1 := ws_ne hv
    have l1' : ((xs.length : Int) == 0) = false := by rw [beq_eq_false_iff_ne]; omega
    have hq : (sa 2 n xs).length = xs.length := sa_len 2 n xs
    have HK := Lib.hid hcs
    have HV := Lib.hid hv
    have HQ := Lib.hid hq
    clear hcs hq hv
    go_wp2_with fail
    refine (imiddle n _ _ xs _ HI.out hln HK.out).mono ?_
    rintro e u2 ⟨g, rfl, lg, R2, C2⟩
    have B2 := bel_tr B1 C2
    have I2 := ints_below HI.out C2
    go_wp2_with fail
    refine (smiddle n _ _ xs _ I2 hln HK.out).mono ?_
    rintro e u3 ⟨b3, cp3, rfl, J3, C3⟩
    have B3 := bel_tr B2 C3
    have I3 := ints_below I2 C3
    have R3 := row_keep R2 C3
    go_wp2_with fail
    refine (lequalN xs.length _ _ _ _ (sa 2 n xs) _ HQ.out (row_ints R3) J3 hln).mono ?_
    rintro e u4 ⟨rfl, C4⟩
    have B4 := bel_tr B3 C4
    have I4 := ints_below I3 C4
    have R4 := row_keep R3 C4
    clear I2 I3 R2 R3 J3 C2 C3 C4 B1 B2 B3
    have HF := Lib.hid (sa_facts HK.out (step := 2) (by omega))
    by_cases hn5 : n = 500
    · have e5 : (n == 500) = true := by rw [beq_iff_eq]; exact hn5
      clear hn5
      go_wp2_with fail
      refine (smiddle n _ _ xs _ I4 hln HK.out).mono ?_
      rintro e u5 ⟨b5, cp5, rfl, J5, C5⟩
      have B5 := bel_tr B4 C5
      have R5 := row_keep R4 C5
      go_wp2_with fail
      refine (lequalN xs.length _ _ _ _ (sa 2 n xs) _ HQ.out (row_ints R5) J5 hln).mono ?_
      rintro e u6 ⟨rfl, C6⟩
      go_wp2_with fail
      go_ret
      exact ⟨rfl, bel_tr B5 C6⟩
    · have e5 : (n == 500) = false := by rw [beq_eq_false_iff_ne]; exact hn5
      have HK1 := Lib.hid (csB_more HK.out hn5)
      have HF1 := Lib.hid (sa_facts HK1.out (step := 2) (by omega))
      obtain ⟨t, ht, hst⟩ := sa_more HK.out (step := 2) (by omega)
      have HD := Lib.hid (dif_more ht HQ.out hst)
      have HQ1 := Lib.hid (sa_len 2 (n + 1) xs)
      clear hst hn5
      go_wp2_with fail
      refine (imiddle (n + 1) _ _ xs _ I4 hln HK1.out).mono ?_
      rintro e u5 ⟨g5, rfl, lg5, R5, C5⟩
      have B5 := bel_tr B4 C5
      have R45 := row_keep R4 C5
      have HR45 := Lib.hid R45
      have I5 := ints_below I4 C5
      clear C5 R4 I4 B4
      go_wp2_with fail
      refine (lless xs.length _ _ _ _ (sa 2 (n + 1) xs) (sa 2 n xs) _ HQ1.out HQ.out (row_ints R5) (row_ints R45) l1 hln (fun i hi => by have := HF1.out.2.2 i hi; omega) (fun i hi => by have := HF.out.2.2 i hi; omega)).mono ?_
      rintro e u6 ⟨b6, cp6, rfl, J6, C6⟩
      rw [HD.out] at J6
      have B6 := bel_tr B5 C6
      have HO1 := Lib.hid (one1_len xs.length t)
      have h1 := one1_sum ht
      have h2 := one1_hi ht
      have h3 := one1_cnt ht
      have hb : ∀ i, i < xs.length → -1000000 ≤ (one1 xs.length t).getD i 0 ∧ (one1 xs.length t).getD i 0 ≤ 1000000 := fun i hi => by rw [one1_get ht]; split <;> omega
      have HB := Lib.hid hb
      have HA := Lib.hid (fun z (hz : z ∈ one1 xs.length t) => all_of_get (fun i hi => hb i (by rw [← HO1.out]; exact hi)) (m := 1000000) (by omega) z hz)
      have HR6 := Lib.hid (row_keep HR45.out C6)
      have HJ6 := Lib.hid J6
      have HT1 := Lib.hid h1
      have HT2 := Lib.hid h2
      have HT3 := Lib.hid h3
      have I6 := ints_below I5 C6
      clear h1 h2 h3 hb J6 C6 R45 R5 HR45 I5 B5
      obtain ⟨ti, hi, hz0, hz1, hz2⟩ := info_parts infoInt
      rcases I6 with rfl | ⟨gw, ow, rfl, hc⟩
      · exact absurd l1 (by simp)
      have HC := Lib.hid hc
      clear hc
      go_wp2_with fail
      go_loopw [7, 8] (fun v i wr => ∃ k : Nat, k ≤ xs.length ∧ i = .int .i64 k ∧ wr.ownsRow u6.heap.size 3 1 v k (((dbl xs).take k).map (Value.int .i64)) ∧ Below u6.heap.size u6 wr) (fun _ i _ => xs.length - (intOf i).toNat)
      case atStart => exact ⟨0, Nat.zero_le _, rfl, ⟨by simp, .inr ⟨u6.heap.size, 0, #[], rfl, Nat.le_refl _, Go.Deep.blk_alloc_new _ _, Nat.le_refl _, by unfold maxLen; omega, rfl, rfl⟩⟩, by go_grown⟩
      case round =>
        obtain ⟨k, hk, rfl, hown, hB⟩ := hrel
        have hsz := hB.size
        by_cases hlt : k < xs.length
        · have hc := (hB.cell (p := ⟨gw, ow + k, none⟩) (World.block_lt_of_cell? u6 _ (HC.out k hlt))).trans (HC.out k hlt)
          have ht := take_map (dbl xs) k (by rw [dbl_len]; exact hlt)
          rw [dbl_get xs k] at ht
          have hb := all_get HV.out hlt
          generalize xs.getD k 0 = z at *
          have HT := Lib.hid ht
          clear ht
          go_wp2_with (first | (at_builtin; refine wpList_append_own _ rfl _ _ 27 rfl u6.heap.size 3 ti (.int .i64 0) 1 8 Try.underlying27 hi hz0 hz1 hz2 rfl (by decide) _ _ _ rfl (hown.alloc _) ⟨wr.heap.size, 0, none⟩ 1 1 [.int .i64 (2 * z)] rfl rfl (cell_one_new _ _ _) (fun x hx => by simp at hx; subst hx; rfl) (by unfold maxLen; omega) (by omega) (by simp; omega) ?_; intro v' w3 hown' hgrow3 hnil3))
          have HR : Hid (w3.ownsRow u6.heap.size 3 1 v' (k + 1) (((dbl xs).take (k + 1)).map (Value.int .i64)) ∧ Below u6.heap.size u6 w3) := ⟨by rw [HT.out]; exact hown', (hB.alloc hsz _).grown hgrow3 (by simp; omega) (fun q hq => (hown.lt q hq).1)⟩
          clear hown hown' hgrow3 hnil3 hB
          go_roundw
          case rel => exact ⟨k + 1, by omega, by go_num, HR.out.1, HR.out.2⟩
          case measure => simp [intOf]; omega
        · have ho := hown
          rw [List.take_of_length_le (by rw [dbl_len]; omega), show k = (dbl xs).length by rw [dbl_len]; omega] at ho
          obtain ⟨bD, cpD, rfl, JD⟩ := own_ints ho
          have hek : k = xs.length := by omega
          subst hek
          have hdl := dbl_len xs
          have HDL := Lib.hid hdl
          have HJD := Lib.hid JD
          have HJ7 := Lib.hid (ints_below HJ6.out hB)
          have HR7 := Lib.hid (row_keep HR6.out hB)
          have B7 := bel_tr B6 hB
          have HDB := Lib.hid (show ∀ i, i < xs.length → -1000000 ≤ (dbl xs).getD i 0 ∧ (dbl xs).getD i 0 ≤ 1000000 from fun i hi => by rw [dbl_get]; have := all_get HV.out hi; omega)
          rw [hdl]
          clear ho hown JD hB hdl
          go_wp2_with fail
          refine (ltotalN xs.length _ _ (one1 xs.length t) _ HO1.out HJ7.out hln HA.out).mono ?_
          rintro e w' ⟨rfl, rfl⟩
          rw [HT1.out]
          go_wp2_with fail
          refine (lhigh xs.length _ _ (one1 xs.length t) _ HO1.out HJ7.out hln HB.out).mono ?_
          rintro e w' ⟨rfl, rfl⟩
          rw [HT2.out]
          go_wp2_with fail
          refine (lcount xs.length _ _ (one1 xs.length t) 0 _ HO1.out HJ7.out hln).mono ?_
          rintro e w' ⟨rfl, rfl⟩
          rw [HT3.out]
          go_wp2_with fail
          refine (lhigh xs.length _ _ (dbl xs) _ HDL.out HJD.out hln HDB.out).mono ?_
          rintro e w' ⟨rfl, rfl⟩
          by_cases hh : hiTo (dbl xs) xs.length ≤ 1000
          · have HKD := Lib.hid (dbl_cs HK.out hh)
            have d1 : decide (1000 < hiTo (dbl xs) xs.length) = false := decide_eq_false (by omega)
            generalize hiTo (dbl xs) xs.length = hx at *
            go_wp2_with fail
            refine (imiddleN xs.length n _ _ (dbl xs) _ HDL.out HJD.out hln HKD.out).mono ?_
            rintro e u8 ⟨g8, rfl, lg8, R8, C8⟩
            rw [dbl_sa] at R8
            go_wp2_with fail
            refine (lequalN xs.length _ _ _ _ (sa 2 n xs) _ HQ.out (row_ints R8) (row_ints (row_keep HR7.out C8)) hln).mono ?_
            rintro e u9 ⟨rfl, C9⟩
            go_wp2_with fail
            go_ret
            exact ⟨rfl, bel_tr (bel_tr B7 C8) C9⟩
          · have d1 : decide (1000 < hiTo (dbl xs) xs.length) = true := decide_eq_true (by omega)
            generalize hiTo (dbl xs) xs.length = hx at *
            go_wp2_with fail
            go_ret
            exact ⟨rfl, B7⟩

set_option maxRecDepth 100000 in
theorem lifted (os : Os) (started : os.Started) (H : Type) (enc : TypeId × Value → H) :
    ReturnsInHanded {} Try.checked os 11 .any (Rows.fnSplitByMiddleMoreSpec.pre6 enc Try.prog Try.f11 Rows.fnSplitByMiddleMoreRow.domain false) (Rows.fnSplitByMiddleMoreSpec.post enc Try.prog Try.f11 false true false false) := by
  refine returnsInHanded_of_change (C := Try.checked) own started (by kernel_rfl) Try.func11
    (ChangeSpec.witness6 (enc := enc) (C := Try.checked) false ⟨#[], #[.slice none 0 0], []⟩ 8 (by kernel_rfl) (by kernel_rfl) (by kernel_rfl) (by kernel_rfl)) ?_
  intro W base args ds gs before hval0 hW hcnd _
  have hval : ∀ (j : Nat) t v, Try.f11.params[j]? = some t → args[j]? = some v → Value.okWide Try.prog W .any base t v := hval0
  have hW' := hW
  obtain ⟨p, q, hA0, hV, rfl, hfz, hnd⟩ := hW
  have hA : DataW.TrodAll enc Try.prog W 0 (fun _ => true) true Try.f11.params.toList args.toList ds p := hA0
  rw [Try.params11] at hA hval
  obtain ⟨v0, vs0, e0, es0, p0, q0, hargs, rfl, rfl, h0, r0⟩ := trodAll_cons hA
  obtain ⟨rfl, rfl, rfl⟩ := trodAll_nil r0
  obtain rfl : args = #[v0] := by cases args; simp_all
  obtain ⟨rfl, rfl⟩ := trodVars_none hV
  have k0 := h0
  have lt0 : ∀ x ∈ p0, x.block < W.heap.size := by obtain ⟨m, hm⟩ := k0; exact DataW.trod_lt m _ _ _ hm
  obtain ⟨a0, len0, cap0, rfl⟩ := okWide_slice Try.underlying22 (hval 0 22 v0 rfl rfl)
  obtain ⟨z0, w0⟩ : ∃ zs, IsRow .u8 W a0 len0 cap0 zs := by
    obtain ⟨fuel, hf⟩ := h0
    rcases open_ints Try.underlying22 Try.underlying5 (by kernel_rfl) hf with ⟨hcs, _⟩ | ⟨x, l, c, zs, hcs, _, hl, hm, hz, _, hcell, hwz⟩
    · simp [Value.cells] at hcs
      obtain ⟨rfl, rfl, rfl⟩ := hcs
      exact ⟨[], .inl ⟨rfl, rfl, rfl, rfl⟩⟩
    · simp [Value.cells] at hcs
      obtain ⟨rfl, rfl, rfl⟩ := hcs
      exact ⟨zs, .inr ⟨_, rfl, hl, hm, by simpa using hz, hcell, hwz⟩⟩
  clear hA0 hval0
  refine (walk a0 len0 cap0 z0 W w0).mono fun e W' ⟨he, bel⟩ => ?_
  subst he
  exact ⟨_, rfl, _, _, _, [], _, [], hW', trodAll_mk1 (shut_bool Try.underlying4 _), (trodAll_cons_mk (Below.trod laidOut (by kernel_rfl) (of_decide_eq_true (by kernel_rfl)) k0 bel lt0) trodAll_mk0), rfl, bel.frame _, fun h => by cases h⟩

theorem over : Rows.fnSplitByMiddleMoreRow.holds Try.pinned (OpenSpec.ofChange Rows.fnSplitByMiddleMoreSpec) :=
  OpenClaim.holds_of_wide 11 Try.f11 rfl rfl rfl rfl rfl rfl rfl ⟨rfl, rfl, rfl, rfl, rfl⟩ rfl rfl rfl rfl rfl (by kernel_rfl) Try.func11 (by kernel_rfl)
    (of_decide_eq_true (by kernel_rfl)) (by unfold Func.isWrapper; first | (rw [if_pos (by decide +kernel)]; kernel_rfl) | (rw [if_neg (by decide +kernel)]; exact ⟨rfl, rfl⟩))
    (fun os started H enc _ => lifted os started H enc)

end Go.Proofs.Ytlpmeljneogpiab.fnSplitByMiddleMore
namespace Go.Proofs.Ytlpmeljneogpiab
/-- the statement -/
theorem fnSplitByMiddleMore_holds : Rows.FnSplitByMiddleMoreSaid := fnSplitByMiddleMore.over
end Go.Proofs.Ytlpmeljneogpiab
