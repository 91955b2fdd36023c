/- For every input the law answers true, and its arguments read afterwards as before: impl.TurnsFor answers as its model. No condition. -/
import Derived.Test.YtonoallohalhgaaRows
import Derived.Test.YtonoallohalhgaaLawH
import Derived.Test.YtonoallohalhgaaLawTn
import Derived.Test.YtonoallohalhgaaTforI
import Derived.Test.YtonoallohalhgaaTforS
import Derived.Test.YtonoallohalhgaaOpenH
import Derived.WalkKit
import Derived.ProofKit
import Derived.OpenShut
import Derived.ShutString
import Derived.ChangeOld
import Derived.Below
import Derived.Lib.SmallJoins
namespace Go.Proofs.Ytonoallohalhgaa.fnExactTurnsFor
open Go.ChangeShapes Go.WideShapes Go.ChangeAt Go.RowKit Go.Joins
open Go.ChangeMaps (open_string shut_string)
set_option linter.unusedVariables false
set_option linter.unusedSimpArgs false

theorem own : ownKnob Try.prog.godebug = none := by kernel_rfl
theorem laidOut : laidOutB Try.prog = true := by kernel_rfl

set_option maxRecDepth 100000 in
set_option maxHeartbeats 6000000 in
theorem walk (a0 : Option Addr) (len0 cap0 : Nat) (hs0 : List Hd) (a1 : Int) (w : World) (w0 : HoldsIn w a0 len0 cap0 hs0) (w1 : (Lit.int .i64 a1).wf = true) :
    Calls Try.prog 3 #[.slice a0 len0 cap0, .int .i64 a1] w fun e w' => e = .returned (.bool true) ∧ Below w.heap.size w w' := by
  obtain ⟨rfl, h1, hlc, hcm⟩ := w0
  by_cases big : 1048576 < hs0.length
  · have hm2 : hs0.length ≤ 9223372036854775807 := by unfold maxLen at hcm; omega
    go_enter Try.func3, Try.ntmps3
    go_wp2_with fail
    refine (lszH_no a0 hs0.length cap0 _ big hm2).mono ?_
    rintro e w' ⟨rfl, rfl⟩
    go_wp2_with fail
    go_ret
    exact ⟨rfl, by go_grown⟩
  have n1 : hs0.length ≤ 1048576 := by omega
  have B := Below.refl w.heap.size w
  obtain ⟨b, hb⟩ : ∃ b, tfB hs0 a1 = b := ⟨_, rfl⟩
  obtain ⟨R, hR⟩ : ∃ R, tfL hs0 a1 = R := ⟨_, rfl⟩
  have CS : ∀ (c : Nat) (A : Option Addr) (W : World), IsHs W A hs0 → hs0.length ≤ c → Calls Try.prog 6 #[.slice A hs0.length c, .int .i64 a1] W (OutTT W b R) := fun c A W hW hc => by
    rw [← hb, ← hR]; exact sTurnsFor A c hs0 a1 W hW n1
  have CI : ∀ (c : Nat) (A : Option Addr) (W : World), IsHs W A hs0 → hs0.length ≤ c → Calls Try.prog 8 #[.slice A hs0.length c, .int .i64 a1] W (OutTT W b R) := fun c A W hW hc => by
    rw [← hb, ← hR]; exact iTurnsFor A c hs0 a1 W hW n1
  have HL : Hid (b = true → R.length ≤ 1048576) := fun c => by
    rw [← hR]; exact (by have := tf_len hs0 a1; omega)
  clear hb hR
  cases b with
  | false =>
    clear HL
    go_enter Try.func3, Try.ntmps3
    go_wp2_with fail
    refine (lszH a0 hs0.length cap0 _ n1).mono ?_
    rintro e w' ⟨rfl, rfl⟩
    go_wp2_with fail
    refine (ltoH a0 cap0 hs0 _ (hs_below h1 B) n1).mono ?_
    rintro e u2 ⟨g1, rfl, lg1, R1, C⟩
    have wg1 : w.heap.size ≤ g1 := Nat.le_trans B.size lg1
    replace B := bel_tr B C
    clear C
    go_wp2_with fail
    refine (CS _ _ _ R1.hs (Nat.le_refl _)).mono ?_
    rintro e u3 ⟨m1, m2, C⟩
    obtain rfl := m1 rfl
    replace B := bel_tr B C
    clear m1 m2 R1 C
    go_wp2_with fail
    refine (ltoH a0 cap0 hs0 _ (hs_below h1 B) n1).mono ?_
    rintro e u4 ⟨g3, rfl, lg3, R3, C⟩
    have wg3 : w.heap.size ≤ g3 := Nat.le_trans B.size lg3
    replace B := bel_tr B C
    clear C
    go_wp2_with fail
    have lt3 := R3.lt
    refine (CI _ _ _ R3.hs (Nat.le_refl _)).mono ?_
    rintro e u5 ⟨m1, m2, C⟩
    obtain rfl := m1 rfl
    replace B := bel_tr B C
    replace R3 := R3.next C
    clear C
    clear m1 m2
    go_wp2_with fail
    refine (leqTn none none 0 0 [] _ (.inl rfl) (.inl rfl) (by simp)).mono ?_
    rintro e u6 ⟨rfl, C⟩
    replace B := bel_tr B C
    replace R3 := R3.next C
    clear C
    go_wp2_with fail
    refine (ltoH a0 cap0 hs0 _ (hs_below h1 B) n1).mono ?_
    rintro e u7 ⟨g6, rfl, lg6, R6, C⟩
    have wg6 : w.heap.size ≤ g6 := Nat.le_trans B.size lg6
    replace B := bel_tr B C
    replace R3 := R3.next C
    clear C
    go_wp2_with fail
    refine (leqH _ _ _ _ hs0 _ R3.hs R6.hs n1).mono ?_
    rintro e u8 ⟨rfl, C⟩
    replace B := bel_tr B C
    replace R3 := R3.next C
    replace R6 := R6.next C
    clear C
    go_wp2_with fail
    clear R6
    have hl0 := flat_len hs0
    refine (lmarkH g3 _ hs0.length _ _ R3 hl0 n1).mono ?_
    rintro e u9 ⟨rfl, F8, G⟩
    clear F8
    replace B := below_g B G wg3
    clear G
    go_wp2_with fail
    refine (leqTn none none 0 0 [] _ (.inl rfl) (.inl rfl) (by simp)).mono ?_
    rintro e u10 ⟨rfl, C⟩
    replace B := bel_tr B C
    clear C
    go_wp2_with fail
    refine (lmarkTn_nil _).mono ?_
    rintro e w' ⟨rfl, rfl⟩
    go_wp2_with fail
    refine (lheldTn_nil _).mono ?_
    rintro e w' ⟨rfl, rfl⟩
    go_wp2_with fail
    refine (ltoH a0 cap0 hs0 _ (hs_below h1 B) n1).mono ?_
    rintro e u13 ⟨g11, rfl, lg11, R11, C⟩
    have wg11 : w.heap.size ≤ g11 := Nat.le_trans B.size lg11
    replace B := bel_tr B C
    clear C
    go_wp2_with fail
    refine (CI _ _ _ R11.hs (Nat.le_refl _)).mono ?_
    rintro e u14 ⟨m1, m2, C⟩
    obtain rfl := m1 rfl
    clear R11
    replace B := bel_tr B C
    clear C
    clear m1 m2
    go_wp2_with fail
    refine (leqTn none none 0 0 [] _ (.inl rfl) (.inl rfl) (by simp)).mono ?_
    rintro e u15 ⟨rfl, C⟩
    replace B := bel_tr B C
    clear C
    go_wp2_with fail
    refine (lheldTn_nil _).mono ?_
    rintro e w' ⟨rfl, rfl⟩
    go_wp2_with fail
    go_ret
    exact ⟨rfl, B⟩
  | true =>
    have nR := HL.out rfl
    clear HL
    go_enter Try.func3, Try.ntmps3
    go_wp2_with fail
    refine (lszH a0 hs0.length cap0 _ n1).mono ?_
    rintro e w' ⟨rfl, rfl⟩
    go_wp2_with fail
    refine (ltoH a0 cap0 hs0 _ (hs_below h1 B) n1).mono ?_
    rintro e u2 ⟨g1, rfl, lg1, R1, C⟩
    have wg1 : w.heap.size ≤ g1 := Nat.le_trans B.size lg1
    replace B := bel_tr B C
    clear C
    go_wp2_with fail
    refine (CS _ _ _ R1.hs (Nat.le_refl _)).mono ?_
    rintro e u3 ⟨m1, m2, C⟩
    obtain ⟨g2, c2, rfl, lg2, F2, _⟩ := m2 rfl
    have I2 := F2.tn
    replace B := bel_tr B C
    clear m1 m2 R1 C
    have D := Below.refl u3.heap.size u3
    go_wp2_with fail
    refine (ltoH a0 cap0 hs0 _ (hs_below h1 B) n1).mono ?_
    rintro e u4 ⟨g3, rfl, lg3, R3, C⟩
    have wg3 : w.heap.size ≤ g3 := Nat.le_trans B.size lg3
    have dg3 : _ ≤ g3 := Nat.le_trans D.size lg3
    replace B := bel_tr B C
    replace D := bel_tr D C
    clear C
    go_wp2_with fail
    have lt3 := R3.lt
    refine (CI _ _ _ R3.hs (Nat.le_refl _)).mono ?_
    rintro e u5 ⟨m1, m2, C⟩
    obtain ⟨g5, c5, rfl, lg5, F5, hc5⟩ := m2 rfl
    have wg5 : w.heap.size ≤ g5 := Nat.le_trans B.size lg5
    have dg5 : _ ≤ g5 := Nat.le_trans D.size lg5
    have ne53 : g5 ≠ g3 := by omega
    replace B := bel_tr B C
    replace D := bel_tr D C
    replace R3 := R3.next C
    clear C
    clear m1 m2
    go_wp2_with fail
    refine (leqTn _ _ _ _ R _ F5.tn (tn_below I2 D) nR).mono ?_
    rintro e u6 ⟨rfl, C⟩
    replace B := bel_tr B C
    replace D := bel_tr D C
    replace R3 := R3.next C
    replace F5 := F5.next C
    clear C
    go_wp2_with fail
    refine (ltoH a0 cap0 hs0 _ (hs_below h1 B) n1).mono ?_
    rintro e u7 ⟨g6, rfl, lg6, R6, C⟩
    have wg6 : w.heap.size ≤ g6 := Nat.le_trans B.size lg6
    have dg6 : _ ≤ g6 := Nat.le_trans D.size lg6
    replace B := bel_tr B C
    replace D := bel_tr D C
    replace R3 := R3.next C
    replace F5 := F5.next C
    clear C
    go_wp2_with fail
    refine (leqH _ _ _ _ hs0 _ R3.hs R6.hs n1).mono ?_
    rintro e u8 ⟨rfl, C⟩
    replace B := bel_tr B C
    replace D := bel_tr D C
    replace R3 := R3.next C
    replace F5 := F5.next C
    replace R6 := R6.next C
    clear C
    go_wp2_with fail
    clear R6
    have hl0 := flat_len hs0
    refine (lmarkH g3 _ hs0.length _ _ R3 hl0 n1).mono ?_
    rintro e u9 ⟨rfl, F8, G⟩
    clear F8
    replace B := below_g B G wg3
    replace D := below_g D G dg3
    replace F5 := F5.apart G ne53
    clear G
    go_wp2_with fail
    refine (leqTn _ _ _ _ R _ F5.tn (tn_below I2 D) nR).mono ?_
    rintro e u10 ⟨rfl, C⟩
    replace B := bel_tr B C
    replace D := bel_tr D C
    replace F5 := F5.next C
    clear C
    go_wp2_with fail
    have hlR := flatTn_len R
    refine (lmarkTn g5 _ R.length _ _ F5 hlR nR).mono ?_
    rintro e u11 ⟨rfl, F10, G⟩
    replace B := below_g B G wg5
    replace D := below_g D G dg5
    clear G
    go_wp2_with fail
    refine (lheldTn g5 _ R.length _ F10 nR).mono ?_
    rintro e w' ⟨rfl, rfl⟩
    go_wp2_with fail
    refine (ltoH a0 cap0 hs0 _ (hs_below h1 B) n1).mono ?_
    rintro e u13 ⟨g11, rfl, lg11, R11, C⟩
    have wg11 : w.heap.size ≤ g11 := Nat.le_trans B.size lg11
    have dg11 : _ ≤ g11 := Nat.le_trans D.size lg11
    replace B := bel_tr B C
    replace D := bel_tr D C
    replace F10 := F10.next C
    clear C
    go_wp2_with fail
    refine (CI _ _ _ R11.hs (Nat.le_refl _)).mono ?_
    rintro e u14 ⟨m1, m2, C⟩
    obtain ⟨g12, c12, rfl, lg12, F12, _⟩ := m2 rfl
    clear R11
    replace B := bel_tr B C
    replace D := bel_tr D C
    replace F10 := F10.next C
    clear C
    clear m1 m2
    go_wp2_with fail
    refine (leqTn _ _ _ _ R _ F12.tn (tn_below I2 D) nR).mono ?_
    rintro e u15 ⟨rfl, C⟩
    replace B := bel_tr B C
    replace D := bel_tr D C
    replace F10 := F10.next C
    replace F12 := F12.next C
    clear C
    go_wp2_with fail
    refine (lheldTn g5 _ R.length _ F10 nR).mono ?_
    rintro e w' ⟨rfl, rfl⟩
    go_wp2_with fail
    go_ret
    exact ⟨rfl, B⟩

set_option maxRecDepth 100000 in
theorem lifted (os : Os) (started : os.Started) (H : Type) (enc : TypeId × Value → H) :
    ReturnsInHanded {} Try.checked os 3 .any (Rows.fnExactTurnsForSpec.pre6 enc Try.prog Try.f3 Rows.fnExactTurnsForRow.domain false) (Rows.fnExactTurnsForSpec.post enc Try.prog Try.f3 false true false false) := by
  refine returnsInHanded_of_change (C := Try.checked) own started (by kernel_rfl) Try.func3
    (ChangeSpec.witness6 (enc := enc) (C := Try.checked) false ⟨#[], #[.slice none 0 0, .int .i64 0], []⟩ 8 (by kernel_rfl) (by kernel_rfl) (by kernel_rfl) (by kernel_rfl)) ?_
  intro W base args ds gs before hval0 hW hcnd _
  have hval : ∀ (j : Nat) t v, Try.f3.params[j]? = some t → args[j]? = some v → Value.okWide Try.prog W .any base t v := hval0
  have hW' := hW
  obtain ⟨p, q, hA0, hV, rfl, hfz, hnd⟩ := hW
  have hA : DataW.TrodAll enc Try.prog W 0 (fun _ => true) true Try.f3.params.toList args.toList ds p := hA0
  rw [Try.params3] at hA hval
  obtain ⟨v0, vs0, e0, es0, p0, q0, hargs, rfl, rfl, h0, r0⟩ := trodAll_cons hA
  obtain ⟨v1, vs1, e1, es1, p1, q1, rfl, rfl, rfl, h1, r1⟩ := trodAll_cons r0
  obtain ⟨rfl, rfl, rfl⟩ := trodAll_nil r1
  obtain rfl : args = #[v0, v1] := by cases args; simp_all
  obtain ⟨rfl, rfl⟩ := trodVars_none hV
  have k0 := h0
  have lt0 : ∀ x ∈ p0, x.block < W.heap.size := by obtain ⟨m, hm⟩ := k0; exact DataW.trod_lt m _ _ _ hm
  obtain ⟨a0, len0, cap0, rfl⟩ := okWide_slice Try.underlying22 (hval 0 22 v0 rfl rfl)
  obtain ⟨hs0, w0⟩ : ∃ hs, HoldsIn W a0 len0 cap0 hs := by
    obtain ⟨fuel, hf⟩ := h0
    exact open_holds hf
  have k1 := h1
  have lt1 : ∀ x ∈ p1, x.block < W.heap.size := by obtain ⟨m, hm⟩ := k1; exact DataW.trod_lt m _ _ _ hm
  obtain ⟨a1, rfl, _, _, w1⟩ := open_int Try.underlying3 (hval 1 3 v1 rfl rfl) h1
  clear hA0 hval0
  refine (walk a0 len0 cap0 hs0 a1 W w0 w1).mono fun e W' ⟨he, bel⟩ => ?_
  subst he
  exact ⟨_, rfl, _, _, _, [], _, [], hW', trodAll_mk1 (shut_bool Try.underlying4 _), (trodAll_cons_mk (Below.trod laidOut (by kernel_rfl) (of_decide_eq_true (by kernel_rfl)) k0 bel lt0) (trodAll_cons_mk (Below.trod laidOut (by kernel_rfl) (of_decide_eq_true (by kernel_rfl)) k1 bel lt1) trodAll_mk0)), rfl, bel.frame _, fun h => by cases h⟩

theorem over : Rows.fnExactTurnsForRow.holds Try.pinned (OpenSpec.ofChange Rows.fnExactTurnsForSpec) :=
  OpenClaim.holds_of_wide 3 Try.f3 rfl rfl rfl rfl rfl rfl rfl ⟨rfl, rfl, rfl, rfl, rfl⟩ rfl rfl rfl rfl rfl (by kernel_rfl) Try.func3 (by kernel_rfl)
    (of_decide_eq_true (by kernel_rfl)) (by unfold Func.isWrapper; first | (rw [if_pos (by decide +kernel)]; kernel_rfl) | (rw [if_neg (by decide +kernel)]; exact ⟨rfl, rfl⟩))
    (fun os started H enc _ => lifted os started H enc)

end Go.Proofs.Ytonoallohalhgaa.fnExactTurnsFor
namespace Go.Proofs.Ytonoallohalhgaa
/-- the statement -/
theorem fnExactTurnsFor_holds : Rows.FnExactTurnsForSaid := fnExactTurnsFor.over
end Go.Proofs.Ytonoallohalhgaa
