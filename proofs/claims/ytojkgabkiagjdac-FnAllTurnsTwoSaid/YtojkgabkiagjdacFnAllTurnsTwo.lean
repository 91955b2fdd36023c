/- For every input the law answers true, and its argument reads afterwards as before: two ways to contest agree. No condition. -/
import Derived.Test.YtojkgabkiagjdacRows
import Derived.Test.YtojkgabkiagjdacDrawCl
import Derived.Test.YtojkgabkiagjdacLawCl
import Derived.Test.YtojkgabkiagjdacClmZ
import Derived.Test.YtojkgabkiagjdacClmK
import Derived.Test.YtojkgabkiagjdacClmF
import Derived.WalkKit
import Derived.Deep.RegionHeld3
import Derived.Deep.QuietTactic
import Derived.BigQuiet
import Derived.RegionTactic
import Derived.ChangeAlike
import Derived.BigRegion
import Derived.ProofKit
import Derived.OpenShut
import Derived.ShutString
import Derived.ChangeOld
import Derived.Below
import Derived.Lib.SmallJoins
namespace Go.Proofs.Ytojkgabkiagjdac.fnAllTurnsTwo
open Go.ChangeShapes Go.WideShapes Go.ChangeAt Go.RowKit Go.Joins
open Go.ChangeMaps (open_string shut_string)
set_option linter.unusedVariables false
set_option linter.unusedSimpArgs false

theorem own : ownKnob Try.prog.godebug = none := by kernel_rfl
theorem laidOut : laidOutB Try.prog = true := by kernel_rfl

set_option maxRecDepth 100000 in
set_option maxHeartbeats 8000000 in
theorem walk (a0 : Option Addr) (len0 cap0 : Nat) (z0 : List Int) (w : World) (w0 : IsRow .u8 w a0 len0 cap0 z0) :
    Calls Try.prog 6 #[.slice a0 len0 cap0] w fun e w' => e = .returned (.bool true) ∧ Below w.heap.size w w' := by
  by_cases big : (1048576 : Int) < (len0 : Int)
  · go_enter Try.func6, Try.ntmps6
    go_wp2
    go_ret
    exact ⟨rfl, Below.refl _ _⟩
  go_enter Try.func6, Try.ntmps6
  go_wp2_with fail
  refine (drawAllTurns a0 len0 cap0 z0 _ w0).mono ?_
  rintro e u1 ⟨n, b1, c1, cs, rfl, n0, n1, hl, hz, I1, B⟩
  clear w0 big
  have hn : cs.length ≤ 1048576 := by omega
  have HZ := Lib.hid hz
  clear hz
  obtain ⟨V, hV⟩ : ∃ V, allV n cs = V := ⟨_, rfl⟩
  have hVl : V.length ≤ 1048576 := by rw [← hV]; exact (by cases hb : avB n cs with | false => (rw [allV_no hb]; simp) | true => (rw [allV_len hb]; exact hn))
  have HF : Hid (∀  (W : World), (h1 : IsInts W b1 cs) → Calls Try.prog 17 #[.int .i64 n, .slice b1 cs.length c1] W (OutI W V)) := fun  W h1 => by rw [← hV]; exact iAll n b1 c1 cs W h1 hn
  have HS : Hid (∀  (W : World), (h1 : IsInts W b1 cs) → Calls Try.prog 18 #[.int .i64 n, .slice b1 cs.length c1] W (OutI W V)) := fun  W h1 => by rw [← hV]; exact sAll n b1 c1 cs W h1 hn
  have HQ : Hid (∀ (b : Option Addr) (b' : Option Addr) (c : Nat) (c' : Nat) (W : World), (h1 : IsInts W b V) → (h2 : IsInts W b' V) → Calls Try.prog 13 #[.slice b V.length c, .slice b' V.length c'] W (fun e w' => e = .returned (.bool true) ∧ Below W.heap.size W w')) := fun b b' c c' W h1 h2 => eqInts b b' c c' V W h1 h2 hVl
  by_cases hz : ¬ V.length = 2
  · have z1 : ((V.length : Int) != 2) = true := by simp; omega
    have z2 : ¬ (V.length : Int) = 2 := by omega
    clear hV hz
    go_wp2_with fail
    refine (HF.out _ I1).mono ?_
    rintro e u2_ ⟨v2, rfl, O2, C_⟩
    obtain ⟨b2, c2, rfl, I2⟩ := O2.ints
    clear O2
    replace B := bel_tr B C_
    replace I1 := ints_below I1 C_
    clear C_
    go_wp2_with fail
    refine (HS.out _ I1).mono ?_
    rintro e u3_ ⟨v3, rfl, O3, C_⟩
    obtain ⟨b3, c3, rfl, I3⟩ := O3.ints
    clear O3
    replace B := bel_tr B C_
    replace I1 := ints_below I1 C_
    replace I2 := ints_below I2 C_
    clear C_
    go_wp2_with fail
    refine (HQ.out _ _ _ _ _ I2 I3).mono ?_
    rintro e u4_ ⟨rfl, C_⟩
    replace B := bel_tr B C_
    replace I1 := ints_below I1 C_
    replace I2 := ints_below I2 C_
    replace I3 := ints_below I3 C_
    clear C_
    go_wp2_with fail
    clear I3
    refine (HS.out _ I1).mono ?_
    rintro e u5_ ⟨v4, rfl, O4, C_⟩
    obtain ⟨b4, c4, rfl, I4⟩ := O4.ints
    clear O4
    replace B := bel_tr B C_
    replace I1 := ints_below I1 C_
    replace I2 := ints_below I2 C_
    clear C_
    go_wp2_with fail
    refine (HQ.out _ _ _ _ _ I2 I4).mono ?_
    rintro e u6_ ⟨rfl, C_⟩
    replace B := bel_tr B C_
    replace I1 := ints_below I1 C_
    replace I2 := ints_below I2 C_
    replace I4 := ints_below I4 C_
    clear C_
    go_wp2_with fail
    go_ret
    exact ⟨rfl, B⟩
  replace hz : V.length = 2 := by omega
  have z1 : ((V.length : Int) != 2) = false := by rw [hz]; rfl
  have z2 : (V.length : Int) = 2 := by omega
  have hh : avB n cs = true := by
    cases hb : avB n cs with
    | false => exact absurd (show V.length = 0 by rw [← hV, allV_no hb]; rfl) (by omega)
    | true => rfl
  obtain ⟨hvc, h5⟩ := av_is hh
  have hVT : totV n cs = V := by rw [← hV, allV_yes hh]
  have hlv : V.length = cs.length := by rw [← hVT]; exact totV_len _ _
  have hvi := vc_iff.1 hvc
  have hs := vc_bd hvi.1 hvi.2.1
  have n6 : n ≤ 6000 := by omega
  have n0 : 0 ≤ n := hvi.2.2.1
  have HCB := Lib.hid (fun i (hi : i < cs.length) => allB_get hvi.1 hi)
  have hvb : ∀ i, i < cs.length → 0 ≤ V.getD i 0 ∧ V.getD i 0 ≤ 720000 := fun i hi => by
    rw [← hVT, totV_get n cs hi]
    have x1 := allS_bd (clF_nn hvi.1) (m := cs.length) n0 i
    have x2 := (facN_le cs.length h5).2
    have x3 : n * (facN cs.length : Int) ≤ 6000 * (facN cs.length : Int) := Int.mul_le_mul_of_nonneg_right n6 (by omega)
    omega
  have HVB := Lib.hid hvb
  have h2 : cs.length = 2 := by omega
  have CH := fun (W : World) (h : IsInts W b1 cs) => iHalf n b1 c1 cs W h hn
  have hsm : ((halfV n cs).length = 0 ∧ evB cs = false) ∨ ((halfV n cs).length = 2 ∧ evB cs = true ∧ (∀ i, i < 2 → 0 ≤ (halfV n cs).getD i 0 ∧ (halfV n cs).getD i 0 ≤ 500) ∧ ∀ i, i < 2 → V.getD i 0 - 2 * (halfV n cs).getD i 0 ≤ 1 ∧ -1 ≤ V.getD i 0 - 2 * (halfV n cs).getD i 0) := by
    cases he : evB cs with
    | false => exact .inl ⟨by rw [half_no (hf_no2 he)]; rfl, rfl⟩
    | true =>
      have hb := hf_yes hvc he
      refine .inr ⟨by rw [half_len hb]; exact h2, rfl, fun i hi => ?_, fun i hi => ?_⟩
      · have x1 := (half_good hb).1.2.2 i (by omega)
        have x2 := HCB.out i (by omega)
        omega
      · have := tot_half hb h2 hi
        rw [hVT] at this; exact this
  have hev : evB cs = false → cs.getD 0 0 % 2 ≠ 0 ∨ cs.getD 1 0 % 2 ≠ 0 := fun he => by
    by_cases c : cs.getD 0 0 % 2 = 0
    · by_cases d : cs.getD 1 0 % 2 = 0
      · exact absurd ((ev_iff cs).2 (fun i hi => by rcases (by omega : i = 0 ∨ i = 1) with rfl | rfl <;> assumption)) (by rw [he]; simp)
      · exact .inr d
    · exact .inl c
  generalize halfV n cs = HV_ at *
  have HH := Lib.hid CH
  have HSM := Lib.hid hsm
  have HEV := Lib.hid hev
  have HLV : Hid (V.length = 2 ∧ cs.length = 2) := ⟨by omega, h2⟩
  clear CH hsm hev hV hVT hlv hh hvc hvi hs hvb hz h2 h5
  go_wp2_with fail
  refine (HF.out _ I1).mono ?_
  rintro e u2_ ⟨v2, rfl, O2, C_⟩
  obtain ⟨b2, c2, rfl, I2⟩ := O2.ints
  clear O2
  replace B := bel_tr B C_
  replace I1 := ints_below I1 C_
  clear C_
  go_wp2_with fail
  refine (HS.out _ I1).mono ?_
  rintro e u3_ ⟨v3, rfl, O3, C_⟩
  obtain ⟨b3, c3, rfl, I3⟩ := O3.ints
  clear O3
  replace B := bel_tr B C_
  replace I1 := ints_below I1 C_
  replace I2 := ints_below I2 C_
  clear C_
  go_wp2_with fail
  refine (HQ.out _ _ _ _ _ I2 I3).mono ?_
  rintro e u4_ ⟨rfl, C_⟩
  replace B := bel_tr B C_
  replace I1 := ints_below I1 C_
  replace I2 := ints_below I2 C_
  replace I3 := ints_below I3 C_
  clear C_
  go_wp2_with fail
  clear I3
  refine (HH.out _ I1).mono ?_
  rintro e u5_ ⟨v5, rfl, O5, C_⟩
  obtain ⟨b5, c5, rfl, I5⟩ := O5.ints
  clear O5
  replace B := bel_tr B C_
  replace I1 := ints_below I1 C_
  replace I2 := ints_below I2 C_
  clear C_
  have HI1 := Lib.hid I1
  have HI2 := Lib.hid I2
  have HI5 := Lib.hid I5
  have HB0 := Lib.hid B
  clear B I1 I2 I5 HQ HS HF HH
  rcases HSM.out with ⟨s1, s2⟩ | ⟨s1, s2, s3, s4⟩
  · have e0 : ((HV_.length : Int) == 2) = false := by rw [beq_eq_false_iff_ne]; omega
    have e0' : ¬ (HV_.length : Int) = 2 := by omega
    have e1 : ¬ (0 : Int) < (HV_.length : Int) := by omega
    have ev := HEV.out s2
    obtain ⟨g1, o1, rfl, h1⟩ := ints_openL HI1.out (by have := HLV.out; omega)
    have x0 := h1 0 (by have := HLV.out; omega)
    have x1 := h1 1 (by have := HLV.out; omega)
    have q0 := HCB.out 0 (by have := HLV.out; omega)
    have q1 := HCB.out 1 (by have := HLV.out; omega)
    have l0 : (0 : Int) < (cs.length : Int) := by have := HLV.out; omega
    have l1 : (1 : Int) < (cs.length : Int) := by have := HLV.out; omega
    clear h1 s1 s2
    generalize cs.getD 0 0 = y0 at *
    generalize cs.getD 1 0 = y1 at *
    have t0 : y0.tmod 2 = y0 % 2 := Int.tmod_eq_emod_of_nonneg q0.1
    have t1 : y1.tmod 2 = y1 % 2 := Int.tmod_eq_emod_of_nonneg q1.1
    rw [Nat.add_zero] at x0
    by_cases d0 : y0 % 2 = 0
    · have f0 : (y0 % 2 != 0) = false := by rw [d0]; rfl
      have f1 : (y1 % 2 != 0) = true := by simp; omega
      have f2 : ¬ y1 % 2 = 0 := by omega
      clear ev
      go_wp2_with fail
      refine wp_loop_rounds 1 ?_
      rw [rounds_succ]
      go_wp2_with fail
      go_ret
      exact ⟨rfl, HB0.out⟩
    · have f0 : (y0 % 2 != 0) = true := by simp; omega
      clear ev
      go_wp2_with fail
      refine wp_loop_rounds 1 ?_
      rw [rounds_succ]
      go_wp2_with fail
      go_ret
      exact ⟨rfl, HB0.out⟩
  · have e0 : ((HV_.length : Int) == 2) = true := by rw [beq_iff_eq]; omega
    have HS1 := Lib.hid s1
    have HS3 := Lib.hid s3
    have HS4 := Lib.hid s4
    clear s1 s2 s3 s4
    go_wp2_with fail
    go_loopw [7] (fun i wr => ∃ k : Nat, k ≤ HV_.length ∧ i = .int .i64 k ∧ Below u5_.heap.size u5_ wr) (fun i _ => HV_.length - (intOf i).toNat)
    case atStart => exact ⟨0, Nat.zero_le _, rfl, Below.refl _ _⟩
    case round =>
      obtain ⟨i, hi, rfl, hB⟩ := hrel
      by_cases hlt : i < HV_.length
      · have hi2 : i < 2 := by have := HS1.out; omega
        have i0 : (0 : Int) ≤ (i : Int) := by omega
        have i1 : (i : Int) < (HV_.length : Int) := by omega
        have i2 : (i : Int) < (V.length : Int) := by have := HLV.out; omega
        obtain ⟨g2, o2, rfl, h2⟩ := ints_openL HI2.out (by omega)
        obtain ⟨g5, o5, rfl, h5⟩ := ints_openL HI5.out (by omega)
        have x0 := cell_nowL (h2 i (by omega)) hB
        have x1 := cell_nowL (h5 i hlt) hB
        have q0 := HS3.out i hi2
        have q1 := HS4.out i hi2
        have q2 := HVB.out i (by have := HLV.out; omega)
        clear h2 h5 hi2
        generalize V.getD i 0 = x at *
        generalize HV_.getD i 0 = y at *
        have wy : IntKind.i64.wrap (2 * y) = 2 * y := by rw [IntKind.wrap_i64]; omega
        have wz : IntKind.i64.wrap (x - 2 * y) = x - 2 * y := by rw [IntKind.wrap_i64]; omega
        have d1 : decide (1 < x - 2 * y) = false := decide_eq_false (by omega)
        have d2 : ¬ 1 < x - 2 * y := by omega
        have d3 : decide (x - 2 * y < -1) = false := decide_eq_false (by omega)
        have d4 : ¬ x - 2 * y < -1 := by omega
        go_wp2_with fail
        go_quiet (fail)
        go_wp2
        go_roundw
        case rel => exact ⟨i + 1, by omega, by go_num, below_drewN hB _⟩
        case measure => simp [intOf]; omega
      · obtain rfl : i = HV_.length := by omega
        have B := bel_tr HB0.out hB
        go_wp2_with fail
        go_ret
        exact ⟨rfl, B⟩

set_option maxRecDepth 100000 in
theorem lifted (os : Os) (started : os.Started) (H : Type) (enc : TypeId × Value → H) :
    ReturnsInHanded {} Try.checked os 6 .any (Rows.fnAllTurnsTwoSpec.pre6 enc Try.prog Try.f6 Rows.fnAllTurnsTwoRow.domain false) (Rows.fnAllTurnsTwoSpec.post enc Try.prog Try.f6 false true false false) := by
  refine returnsInHanded_of_change (C := Try.checked) own started (by kernel_rfl) Try.func6
    (ChangeSpec.witness6 (enc := enc) (C := Try.checked) false ⟨#[], #[.slice none 0 0], []⟩ 8 (by kernel_rfl) (by kernel_rfl) (by kernel_rfl) (by kernel_rfl)) ?_
  intro W base args ds gs before hval0 hW hcnd _
  have hval : ∀ (j : Nat) t v, Try.f6.params[j]? = some t → args[j]? = some v → Value.okWide Try.prog W .any base t v := hval0
  have hW' := hW
  obtain ⟨p, q, hA0, hV, rfl, hfz, hnd⟩ := hW
  have hA : DataW.TrodAll enc Try.prog W 0 (fun _ => true) true Try.f6.params.toList args.toList ds p := hA0
  rw [Try.params6] at hA hval
  obtain ⟨v0, vs0, e0, es0, p0, q0, hargs, rfl, rfl, h0, r0⟩ := trodAll_cons hA
  obtain ⟨rfl, rfl, rfl⟩ := trodAll_nil r0
  obtain rfl : args = #[v0] := by cases args; simp_all
  obtain ⟨rfl, rfl⟩ := trodVars_none hV
  have k0 := h0
  have lt0 : ∀ x ∈ p0, x.block < W.heap.size := by obtain ⟨m, hm⟩ := k0; exact DataW.trod_lt m _ _ _ hm
  obtain ⟨a0, len0, cap0, rfl⟩ := okWide_slice Try.underlying22 (hval 0 22 v0 rfl rfl)
  obtain ⟨z0, w0⟩ : ∃ zs, IsRow .u8 W a0 len0 cap0 zs := by
    obtain ⟨fuel, hf⟩ := h0
    rcases open_ints Try.underlying22 Try.underlying5 (by kernel_rfl) hf with ⟨hcs, _⟩ | ⟨x, l, c, zs, hcs, _, hl, hm, hz, _, hcell, hwz⟩
    · simp [Value.cells] at hcs
      obtain ⟨rfl, rfl, rfl⟩ := hcs
      exact ⟨[], .inl ⟨rfl, rfl, rfl, rfl⟩⟩
    · simp [Value.cells] at hcs
      obtain ⟨rfl, rfl, rfl⟩ := hcs
      exact ⟨zs, .inr ⟨_, rfl, hl, hm, by simpa using hz, hcell, hwz⟩⟩
  clear hA0 hval0
  refine (walk a0 len0 cap0 z0 W w0).mono fun e W' ⟨he, bel⟩ => ?_
  subst he
  exact ⟨_, rfl, _, _, _, [], _, [], hW', trodAll_mk1 (shut_bool Try.underlying4 _), (trodAll_cons_mk (Below.trod laidOut (by kernel_rfl) (of_decide_eq_true (by kernel_rfl)) k0 bel lt0) trodAll_mk0), rfl, bel.frame _, fun h => by cases h⟩

theorem over : Rows.fnAllTurnsTwoRow.holds Try.pinned (OpenSpec.ofChange Rows.fnAllTurnsTwoSpec) :=
  OpenClaim.holds_of_wide 6 Try.f6 rfl rfl rfl rfl rfl rfl rfl ⟨rfl, rfl, rfl, rfl, rfl⟩ rfl rfl rfl rfl rfl (by kernel_rfl) Try.func6 (by kernel_rfl)
    (of_decide_eq_true (by kernel_rfl)) (by unfold Func.isWrapper; first | (rw [if_pos (by decide +kernel)]; kernel_rfl) | (rw [if_neg (by decide +kernel)]; exact ⟨rfl, rfl⟩))
    (fun os started H enc _ => lifted os started H enc)

end Go.Proofs.Ytojkgabkiagjdac.fnAllTurnsTwo
namespace Go.Proofs.Ytojkgabkiagjdac
/-- the statement -/
theorem fnAllTurnsTwo_holds : Rows.FnAllTurnsTwoSaid := fnAllTurnsTwo.over
end Go.Proofs.Ytojkgabkiagjdac
