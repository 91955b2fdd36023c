/- For every input the law answers true, and its arguments read afterwards as before: impl.UnitsOf answers as its model. No condition. -/
import Derived.Test.YtghfoceceomicaaRows
import Derived.Test.YtghfoceceomicaaLawH
import Derived.Test.YtghfoceceomicaaUnits
import Derived.Test.YtghfoceceomicaaMarks
import Derived.Test.YtghfoceceomicaaOpenH
import Derived.WalkKit
import Derived.ProofKit
import Derived.OpenShut
import Derived.ShutString
import Derived.ChangeOld
import Derived.Below
import Derived.Lib.SmallJoins
namespace Go.Proofs.Ytghfoceceomicaa.fnExactUnitsOf
open Go.ChangeShapes Go.WideShapes Go.ChangeAt Go.RowKit Go.Joins
open Go.ChangeMaps (open_string shut_string)
set_option linter.unusedVariables false

theorem own : ownKnob Try.prog.godebug = none := by kernel_rfl
theorem laidOut : laidOutB Try.prog = true := by kernel_rfl

set_option maxRecDepth 100000 in
set_option maxHeartbeats 4000000 in
theorem walk (a0 : Option Addr) (len0 cap0 : Nat) (hs0 : List Hd) (w : World) (w0 : HoldsIn w a0 len0 cap0 hs0) :
    Calls Try.prog 9 #[.slice a0 len0 cap0] w fun e w' => e = .returned (.bool true) ∧ Below w.heap.size w w' := by
  obtain ⟨rfl, h1, hlc, hcm⟩ := w0
  by_cases big : 1048576 < hs0.length
  · have hm2 : hs0.length ≤ 9223372036854775807 := by unfold maxLen at hcm; omega
    go_enter Try.func9, Try.ntmps9
    go_wp2_with fail
    refine (lszH_no a0 hs0.length cap0 _ big hm2).mono ?_
    rintro e w' ⟨rfl, rfl⟩
    go_wp2_with fail
    go_ret
    exact ⟨rfl, by go_grown⟩
  have n1 : hs0.length ≤ 1048576 := by omega
  have B0 := Below.refl w.heap.size w
  by_cases hk : cdR hs0 = -1
  · have HK := Lib.hid hk
    clear hk
    go_enter Try.func9, Try.ntmps9
    go_wp2_with fail
    refine (lszH a0 hs0.length cap0 _ n1).mono ?_
    rintro e w' ⟨rfl, rfl⟩
    go_wp2_with fail
    refine (ltoH a0 cap0 hs0 _ (hs_below h1 B0) n1).mono ?_
    rintro e u1 ⟨g1, rfl, lg1, R1, C1⟩
    have B1 := bel_tr B0 C1
    go_wp2_with fail
    refine (sUnits_no _ _ hs0 _ R1.hs n1 HK.out).mono ?_
    rintro e u2 ⟨rfl, C2⟩
    have B2 := bel_tr B1 C2
    go_wp2_with fail
    refine (ltoH a0 cap0 hs0 _ (hs_below h1 B2) n1).mono ?_
    rintro e u3 ⟨g3, rfl, lg3, R3, C3⟩
    have B3 := bel_tr B2 C3
    go_wp2_with fail
    refine (iUnits_no _ _ hs0 _ R3.hs n1 HK.out).mono ?_
    rintro e u4 ⟨rfl, C4⟩
    have B4 := bel_tr B3 C4
    go_wp2_with fail
    refine (leqIntS none none 0 0 [] _ (.inl rfl) (.inl rfl) (by simp)).mono ?_
    rintro e u5 ⟨rfl, C5⟩
    have B5 := bel_tr B4 C5
    go_wp2_with fail
    refine (ltoH a0 cap0 hs0 _ (hs_below h1 B5) n1).mono ?_
    rintro e u6 ⟨g6, rfl, lg6, R6, C6⟩
    have B6 := bel_tr B5 C6
    go_wp2_with fail
    refine (leqH _ _ _ _ hs0 _ (((R3.next C4).next C5).next C6).hs R6.hs n1).mono ?_
    rintro e u7 ⟨rfl, C7⟩
    have B7 := bel_tr B6 C7
    go_wp2_with fail
    have hl0 := flat_len hs0
    refine (lmarkH g3 _ hs0.length _ _ ((((R3.next C4).next C5).next C6).next C7) hl0 n1).mono ?_
    rintro e u8 ⟨rfl, F8, G8⟩
    have B8 := below_g B7 G8 (Nat.le_trans B2.size lg3)
    go_wp2_with fail
    refine (leqIntS none none 0 0 [] _ (.inl rfl) (.inl rfl) (by simp)).mono ?_
    rintro e u9 ⟨rfl, C9⟩
    have B9 := bel_tr B8 C9
    go_wp2_with fail
    refine (lmark_nil _).mono ?_
    rintro e w' ⟨rfl, rfl⟩
    go_wp2_with fail
    refine (lheld_nil _).mono ?_
    rintro e w' ⟨rfl, rfl⟩
    go_wp2_with fail
    refine (ltoH a0 cap0 hs0 _ (hs_below h1 B9) n1).mono ?_
    rintro e u10 ⟨g10, rfl, lg10, R10, C10⟩
    have B10 := bel_tr B9 C10
    go_wp2_with fail
    refine (iUnits_no _ _ hs0 _ R10.hs n1 HK.out).mono ?_
    rintro e u11 ⟨rfl, C11⟩
    have B11 := bel_tr B10 C11
    go_wp2_with fail
    refine (leqIntS none none 0 0 [] _ (.inl rfl) (.inl rfl) (by simp)).mono ?_
    rintro e u12 ⟨rfl, C12⟩
    have B12 := bel_tr B11 C12
    go_wp2_with fail
    refine (lheld_nil _).mono ?_
    rintro e w' ⟨rfl, rfl⟩
    go_wp2_with fail
    go_ret
    exact ⟨rfl, B12⟩
  · have HK : Hid (cdR hs0 ≠ -1) := hk
    have hq : (unR hs0).length = hs0.length := un_len hs0
    obtain ⟨q, hqq⟩ : ∃ q, unR hs0 = q := ⟨_, rfl⟩
    rw [hqq] at hq
    have HQ := Lib.hid hq
    have HE := Lib.hid hqq
    have nq : q.length ≤ 1048576 := by omega
    clear hk hq hqq
    go_enter Try.func9, Try.ntmps9
    go_wp2_with fail
    refine (lszH a0 hs0.length cap0 _ n1).mono ?_
    rintro e w' ⟨rfl, rfl⟩
    go_wp2_with fail
    refine (ltoH a0 cap0 hs0 _ (hs_below h1 B0) n1).mono ?_
    rintro e u1 ⟨g1, rfl, lg1, R1, C1⟩
    have B1 := bel_tr B0 C1
    go_wp2_with fail
    refine (sUnits _ _ hs0 _ R1.hs n1 HK.out).mono ?_
    rintro e u2 ⟨v, rfl, hO2, C2⟩
    rw [← HQ.out] at hO2
    rw [HE.out] at hO2
    obtain ⟨b2, c2, hv2, I2⟩ := own_ints hO2
    subst hv2
    rw [HQ.out]
    have B2 := bel_tr B1 C2
    clear R1 hO2
    go_wp2_with fail
    refine (ltoH a0 cap0 hs0 _ (hs_below h1 B2) n1).mono ?_
    rintro e u3 ⟨g3, rfl, lg3, R3, C3⟩
    have B3 := bel_tr B2 C3
    go_wp2_with fail
    refine (iUnits _ _ hs0 _ R3.hs n1 HK.out).mono ?_
    rintro e u4 ⟨g4, rfl, l4, R4, C4⟩
    rw [HE.out] at R4
    have B4 := bel_tr B3 C4
    have D4 := bel_tr C3 C4
    have lt3 := R3.lt
    have w3 : w.heap.size ≤ g3 := Nat.le_trans B2.size lg3
    have w4 : w.heap.size ≤ g4 := Nat.le_trans B3.size l4
    have v4 : u2.heap.size ≤ g4 := Nat.le_trans C3.size l4
    have ne43 : g4 ≠ g3 := by omega
    go_wp2_with fail
    refine (leqN hs0.length _ _ _ _ q _ HQ.out (row_ints R4) (ints_below I2 D4) nq).mono ?_
    rintro e u5 ⟨rfl, C5⟩
    have B5 := bel_tr B4 C5
    have D5 := bel_tr D4 C5
    go_wp2_with fail
    refine (ltoH a0 cap0 hs0 _ (hs_below h1 B5) n1).mono ?_
    rintro e u6 ⟨g6, rfl, lg6, R6, C6⟩
    have B6 := bel_tr B5 C6
    have D6 := bel_tr D5 C6
    go_wp2_with fail
    refine (leqH _ _ _ _ hs0 _ (((R3.next C4).next C5).next C6).hs R6.hs n1).mono ?_
    rintro e u7 ⟨rfl, C7⟩
    have B7 := bel_tr B6 C7
    have D7 := bel_tr D6 C7
    have F7 := row_keep (row_keep (row_keep R4 C5) C6) C7
    have R7 := (((R3.next C4).next C5).next C6).next C7
    clear R4 R3 R6
    go_wp2_with fail
    have hl0 := flat_len hs0
    refine (lmarkH g3 _ hs0.length _ _ R7 hl0 n1).mono ?_
    rintro e u8 ⟨rfl, F8, G8⟩
    have B8 := below_g B7 G8 w3
    have D8 := below_g D7 G8 lg3
    have F48 := row_apart F7 G8 ne43
    clear F7 R7 F8 G8
    go_wp2_with fail
    refine (leqN hs0.length _ _ _ _ q _ HQ.out (row_ints F48) (ints_below I2 D8) nq).mono ?_
    rintro e u9 ⟨rfl, C9⟩
    have B9 := bel_tr B8 C9
    have D9 := bel_tr D8 C9
    go_wp2_with fail
    refine (lmarkN hs0.length g4 _ q _ HQ.out (row_keep F48 C9) nq).mono ?_
    rintro e u10 ⟨rfl, F10, G10⟩
    have B10 := below_g B9 G10 w4
    have D10 := below_g D9 G10 v4
    clear F48 G10 C9
    go_wp2_with fail
    refine (lheld g4 _ hs0.length _ F10 n1).mono ?_
    rintro e w' ⟨rfl, rfl⟩
    go_wp2_with fail
    refine (ltoH a0 cap0 hs0 _ (hs_below h1 B10) n1).mono ?_
    rintro e u11 ⟨g11, rfl, lg11, R11, C11⟩
    have B11 := bel_tr B10 C11
    have D11 := bel_tr D10 C11
    go_wp2_with fail
    refine (iUnits _ _ hs0 _ R11.hs n1 HK.out).mono ?_
    rintro e u12 ⟨g12, rfl, l12, R12, C12⟩
    rw [HE.out] at R12
    have B12 := bel_tr B11 C12
    have D12 := bel_tr D11 C12
    go_wp2_with fail
    refine (leqN hs0.length _ _ _ _ q _ HQ.out (row_ints R12) (ints_below I2 D12) nq).mono ?_
    rintro e u13 ⟨rfl, C13⟩
    have B13 := bel_tr B12 C13
    go_wp2_with fail
    refine (lheld g4 _ hs0.length _ (row_keep (row_keep (row_keep F10 C11) C12) C13) n1).mono ?_
    rintro e w' ⟨rfl, rfl⟩
    go_wp2_with fail
    go_ret
    exact ⟨rfl, B13⟩

set_option maxRecDepth 100000 in
theorem lifted (os : Os) (started : os.Started) (H : Type) (enc : TypeId × Value → H) :
    ReturnsInHanded {} Try.checked os 9 .any (Rows.fnExactUnitsOfSpec.pre6 enc Try.prog Try.f9 Rows.fnExactUnitsOfRow.domain false) (Rows.fnExactUnitsOfSpec.post enc Try.prog Try.f9 false true false false) := by
  refine returnsInHanded_of_change (C := Try.checked) own started (by kernel_rfl) Try.func9
    (ChangeSpec.witness6 (enc := enc) (C := Try.checked) false ⟨#[], #[.slice none 0 0], []⟩ 8 (by kernel_rfl) (by kernel_rfl) (by kernel_rfl) (by kernel_rfl)) ?_
  intro W base args ds gs before hval0 hW hcnd _
  have hval : ∀ (j : Nat) t v, Try.f9.params[j]? = some t → args[j]? = some v → Value.okWide Try.prog W .any base t v := hval0
  have hW' := hW
  obtain ⟨p, q, hA0, hV, rfl, hfz, hnd⟩ := hW
  have hA : DataW.TrodAll enc Try.prog W 0 (fun _ => true) true Try.f9.params.toList args.toList ds p := hA0
  rw [Try.params9] at hA hval
  obtain ⟨v0, vs0, e0, es0, p0, q0, hargs, rfl, rfl, h0, r0⟩ := trodAll_cons hA
  obtain ⟨rfl, rfl, rfl⟩ := trodAll_nil r0
  obtain rfl : args = #[v0] := by cases args; simp_all
  obtain ⟨rfl, rfl⟩ := trodVars_none hV
  have k0 := h0
  have lt0 : ∀ x ∈ p0, x.block < W.heap.size := by obtain ⟨m, hm⟩ := k0; exact DataW.trod_lt m _ _ _ hm
  obtain ⟨a0, len0, cap0, rfl⟩ := okWide_slice Try.underlying22 (hval 0 22 v0 rfl rfl)
  obtain ⟨hs0, w0⟩ : ∃ hs, HoldsIn W a0 len0 cap0 hs := by
    obtain ⟨fuel, hf⟩ := h0
    exact open_holds hf
  clear hA0 hval0
  refine (walk a0 len0 cap0 hs0 W w0).mono fun e W' ⟨he, bel⟩ => ?_
  subst he
  exact ⟨_, rfl, _, _, _, [], _, [], hW', trodAll_mk1 (shut_bool Try.underlying4 _), (trodAll_cons_mk (Below.trod laidOut (by kernel_rfl) (of_decide_eq_true (by kernel_rfl)) k0 bel lt0) trodAll_mk0), rfl, bel.frame _, fun h => by cases h⟩

theorem over : Rows.fnExactUnitsOfRow.holds Try.pinned (OpenSpec.ofChange Rows.fnExactUnitsOfSpec) :=
  OpenClaim.holds_of_wide 9 Try.f9 rfl rfl rfl rfl rfl rfl rfl ⟨rfl, rfl, rfl, rfl, rfl⟩ rfl rfl rfl rfl rfl (by kernel_rfl) Try.func9 (by kernel_rfl)
    (of_decide_eq_true (by kernel_rfl)) (by unfold Func.isWrapper; first | (rw [if_pos (by decide +kernel)]; kernel_rfl) | (rw [if_neg (by decide +kernel)]; exact ⟨rfl, rfl⟩))
    (fun os started H enc _ => lifted os started H enc)

end Go.Proofs.Ytghfoceceomicaa.fnExactUnitsOf
namespace Go.Proofs.Ytghfoceceomicaa
/-- the statement -/
theorem fnExactUnitsOf_holds : Rows.FnExactUnitsOfSaid := fnExactUnitsOf.over
end Go.Proofs.Ytghfoceceomicaa
