/- For every input the law answers true, and its arguments read afterwards as before: impl.ValidLeases answers as its model. No condition. -/
import Derived.Test.YtgmmdpdlekpmfacRows
import Derived.Test.YtgmmdpdlekpmfacGrB
import Derived.Test.YtgmmdpdlekpmfacGrE
import Derived.Test.YtgmmdpdlekpmfacGrF
import Derived.WalkKit
import Derived.ProofKit
import Derived.OpenShut
import Derived.ShutString
import Derived.ChangeOld
import Derived.Below
import Derived.Lib.SmallJoins
namespace Go.Proofs.Ytgmmdpdlekpmfac.fnExactValidLeases
open Go.ChangeShapes Go.WideShapes Go.ChangeAt Go.RowKit Go.Joins
open Go.ChangeMaps (open_string shut_string)
set_option linter.unusedVariables false
set_option linter.unusedSimpArgs false

theorem own : ownKnob Try.prog.godebug = none := by kernel_rfl
theorem laidOut : laidOutB Try.prog = true := by kernel_rfl

set_option maxRecDepth 100000 in
set_option maxHeartbeats 6000000 in
theorem walk (a0 : Option Addr) (len0 cap0 : Nat) (hs0 : List Hd) (a1 : Option Addr) (len1 cap1 : Nat) (x1 : List Lr) (w : World) (w0 : HoldsIn w a0 len0 cap0 hs0) (w1 : LrIn w a1 len1 cap1 x1) :
    Calls Try.prog 10 #[.slice a0 len0 cap0, .slice a1 len1 cap1] w fun e w' => e = .returned (.bool true) ∧ Below w.heap.size w w' := by
  obtain ⟨rfl, h1, hlc, hcm⟩ := w0
  obtain ⟨hdl, hd0, hdlc, hdcm⟩ := w1
  subst hdl
  obtain ⟨ls, hds⟩ : ∃ ls, ls = x1 := ⟨_, rfl⟩
  subst hds
  by_cases big : 1048576 < hs0.length
  · have hm2 : hs0.length ≤ 9223372036854775807 := by unfold maxLen at hcm; omega
    go_enter Try.func10, Try.ntmps10
    go_wp2_with fail
    refine (lszH_no a0 hs0.length cap0 _ big hm2).mono ?_
    rintro e w' ⟨rfl, rfl⟩
    go_wp2_with fail
    go_ret
    exact ⟨rfl, by go_grown⟩
  have n1 : hs0.length ≤ 1048576 := by omega
  have B := Below.refl w.heap.size w
  have m0 : ls.length ≤ 9223372036854775807 := by unfold maxLen at hdcm; omega
  have CZ := lszLs a1 ls.length cap1 (1048576 - (hs0.length : Int)) w (by omega) (by omega) m0
  have e9 : decide (1048576 - (hs0.length : Int) < 0) = false := decide_eq_false (by omega)
  by_cases bigz : 1048576 - (hs0.length : Int) - (ls.length : Int) < 0
  · rw [if_pos bigz] at CZ
    clear bigz m0
    go_enter Try.func10, Try.ntmps10
    go_wp2_with fail
    refine (lszH a0 hs0.length cap0 _ n1).mono ?_
    rintro e w' ⟨rfl, rfl⟩
    go_wp2_with fail
    refine CZ.mono ?_
    rintro e u1 ⟨rfl, rfl⟩
    go_wp2_with fail
    go_ret
    exact ⟨rfl, B⟩
  rw [if_neg bigz] at CZ
  have nd : ls.length ≤ 1048576 := by omega
  obtain ⟨z, hz⟩ : ∃ z, 1048576 - (hs0.length : Int) - (ls.length : Int) = z := ⟨_, rfl⟩
  rw [hz] at CZ bigz
  have e8 : decide (z < 0) = false := decide_eq_false bigz
  clear hz bigz m0
  obtain ⟨b, hb⟩ : ∃ b, lzB hs0 ls = b := ⟨_, rfl⟩
  have CS : ∀ (c : Nat) (A : Option Addr) (W : World) (c2 : Nat) (A2 : Option Addr), IsHs W A hs0 → IsLs W A2 ls → Calls Try.prog 38 #[.slice A hs0.length c, .slice A2 ls.length c2] W fun e w' => e = .returned (.bool b) ∧ Below W.heap.size W w' := fun c A W c2 A2 hW hI => by
    rw [← hb]; exact sLeases A A2 c c2 hs0 ls W hW n1 hI nd
  have CI : ∀ (c : Nat) (A : Option Addr) (W : World) (c2 : Nat) (A2 : Option Addr), IsHs W A hs0 → IsLs W A2 ls → Calls Try.prog 41 #[.slice A hs0.length c, .slice A2 ls.length c2] W fun e w' => e = .returned (.bool b) ∧ Below W.heap.size W w' := fun c A W c2 A2 hW hI => by
    rw [← hb]; exact iLeases A c hs0 A2 c2 ls W hW n1 hI nd
  have eb : (b != b) = false := by cases b <;> rfl
  clear hb
  go_enter Try.func10, Try.ntmps10
  go_wp2_with fail
  refine (lszH a0 hs0.length cap0 _ n1).mono ?_
  rintro e w' ⟨rfl, rfl⟩
  go_wp2_with fail
  refine (CZ).mono ?_
  rintro e w' ⟨rfl, rfl⟩
  clear CZ
  go_wp2_with fail
  refine (ltoH a0 cap0 hs0 _ (hs_below h1 B) n1).mono ?_
  rintro e u3 ⟨g1, rfl, lg1, R1, C⟩
  replace B := bel_tr B C
  clear C
  go_wp2_with fail
  refine (ltoLs a1 cap1 ls _ (ls_below hd0 B) nd).mono ?_
  rintro e u4 ⟨p1, rfl, lp1, T1, C⟩
  replace B := bel_tr B C
  replace R1 := R1.next C
  clear C
  go_wp2_with fail
  refine (CS _ _ _ _ _ R1.hs T1.is).mono ?_
  rintro e u5 ⟨rfl, C⟩
  replace B := bel_tr B C
  clear R1 T1 C
  go_wp2_with fail
  refine (ltoH a0 cap0 hs0 _ (hs_below h1 B) n1).mono ?_
  rintro e u6 ⟨g3, rfl, lg3, R3, C⟩
  replace B := bel_tr B C
  clear C
  go_wp2_with fail
  refine (ltoLs a1 cap1 ls _ (ls_below hd0 B) nd).mono ?_
  rintro e u7 ⟨p4, rfl, lp4, T4, C⟩
  replace B := bel_tr B C
  replace R3 := R3.next C
  clear C
  go_wp2_with fail
  refine (CI _ _ _ _ _ R3.hs T4.is).mono ?_
  rintro e u8 ⟨rfl, C⟩
  replace B := bel_tr B C
  replace R3 := R3.next C
  replace T4 := T4.next C
  clear C
  go_wp2_with fail
  refine (ltoH a0 cap0 hs0 _ (hs_below h1 B) n1).mono ?_
  rintro e u9 ⟨g6, rfl, lg6, R6, C⟩
  replace B := bel_tr B C
  replace R3 := R3.next C
  replace T4 := T4.next C
  clear C
  go_wp2_with fail
  refine (leqH _ _ _ _ hs0 _ R3.hs R6.hs n1).mono ?_
  rintro e u10 ⟨rfl, C⟩
  replace B := bel_tr B C
  replace R3 := R3.next C
  replace T4 := T4.next C
  replace R6 := R6.next C
  clear C
  go_wp2_with fail
  clear R6
  refine (ltoLs a1 cap1 ls _ (ls_below hd0 B) nd).mono ?_
  rintro e u11 ⟨p7, rfl, lp7, T7, C⟩
  replace B := bel_tr B C
  replace R3 := R3.next C
  replace T4 := T4.next C
  clear C
  go_wp2_with fail
  refine (leqLs _ _ _ _ ls _ T4.is T7.is nd).mono ?_
  rintro e u12 ⟨rfl, C⟩
  replace B := bel_tr B C
  replace R3 := R3.next C
  replace T4 := T4.next C
  replace T7 := T7.next C
  clear C
  go_wp2_with fail
  go_ret
  exact ⟨rfl, B⟩

set_option maxRecDepth 100000 in
theorem lifted (os : Os) (started : os.Started) (H : Type) (enc : TypeId × Value → H) :
    ReturnsInHanded {} Try.checked os 10 .any (Rows.fnExactValidLeasesSpec.pre6 enc Try.prog Try.f10 Rows.fnExactValidLeasesRow.domain false) (Rows.fnExactValidLeasesSpec.post enc Try.prog Try.f10 false true false false) := by
  refine returnsInHanded_of_change (C := Try.checked) own started (by kernel_rfl) Try.func10
    (ChangeSpec.witness6 (enc := enc) (C := Try.checked) false ⟨#[], #[.slice none 0 0, .slice none 0 0], []⟩ 8 (by kernel_rfl) (by kernel_rfl) (by kernel_rfl) (by kernel_rfl)) ?_
  intro W base args ds gs before hval0 hW hcnd _
  have hval : ∀ (j : Nat) t v, Try.f10.params[j]? = some t → args[j]? = some v → Value.okWide Try.prog W .any base t v := hval0
  have hW' := hW
  obtain ⟨p, q, hA0, hV, rfl, hfz, hnd⟩ := hW
  have hA : DataW.TrodAll enc Try.prog W 0 (fun _ => true) true Try.f10.params.toList args.toList ds p := hA0
  rw [Try.params10] at hA hval
  obtain ⟨v0, vs0, e0, es0, p0, q0, hargs, rfl, rfl, h0, r0⟩ := trodAll_cons hA
  obtain ⟨v1, vs1, e1, es1, p1, q1, rfl, rfl, rfl, h1, r1⟩ := trodAll_cons r0
  obtain ⟨rfl, rfl, rfl⟩ := trodAll_nil r1
  obtain rfl : args = #[v0, v1] := by cases args; simp_all
  obtain ⟨rfl, rfl⟩ := trodVars_none hV
  have k0 := h0
  have lt0 : ∀ x ∈ p0, x.block < W.heap.size := by obtain ⟨m, hm⟩ := k0; exact DataW.trod_lt m _ _ _ hm
  obtain ⟨a0, len0, cap0, rfl⟩ := okWide_slice Try.underlying57 (hval 0 57 v0 rfl rfl)
  obtain ⟨hs0, w0⟩ : ∃ hs, HoldsIn W a0 len0 cap0 hs := by
    obtain ⟨fuel, hf⟩ := h0
    exact open_holds hf
  have k1 := h1
  have lt1 : ∀ x ∈ p1, x.block < W.heap.size := by obtain ⟨m, hm⟩ := k1; exact DataW.trod_lt m _ _ _ hm
  obtain ⟨a1, len1, cap1, rfl⟩ := okWide_slice Try.underlying58 (hval 1 58 v1 rfl rfl)
  obtain ⟨x1, w1⟩ : ∃ xs, LrIn W a1 len1 cap1 xs := by
    obtain ⟨fuel, hf⟩ := h1
    exact open_lrs hf
  clear hA0 hval0
  refine (walk a0 len0 cap0 hs0 a1 len1 cap1 x1 W w0 w1).mono fun e W' ⟨he, bel⟩ => ?_
  subst he
  exact ⟨_, rfl, _, _, _, [], _, [], hW', trodAll_mk1 (shut_bool Try.underlying4 _), (trodAll_cons_mk (Below.trod laidOut (by kernel_rfl) (of_decide_eq_true (by kernel_rfl)) k0 bel lt0) (trodAll_cons_mk (Below.trod laidOut (by kernel_rfl) (of_decide_eq_true (by kernel_rfl)) k1 bel lt1) trodAll_mk0)), rfl, bel.frame _, fun h => by cases h⟩

theorem over : Rows.fnExactValidLeasesRow.holds Try.pinned (OpenSpec.ofChange Rows.fnExactValidLeasesSpec) :=
  OpenClaim.holds_of_wide 10 Try.f10 rfl rfl rfl rfl rfl rfl rfl ⟨rfl, rfl, rfl, rfl, rfl⟩ rfl rfl rfl rfl rfl (by kernel_rfl) Try.func10 (by kernel_rfl)
    (of_decide_eq_true (by kernel_rfl)) (by unfold Func.isWrapper; first | (rw [if_pos (by decide +kernel)]; kernel_rfl) | (rw [if_neg (by decide +kernel)]; exact ⟨rfl, rfl⟩))
    (fun os started H enc _ => lifted os started H enc)

end Go.Proofs.Ytgmmdpdlekpmfac.fnExactValidLeases
namespace Go.Proofs.Ytgmmdpdlekpmfac
/-- the statement -/
theorem fnExactValidLeases_holds : Rows.FnExactValidLeasesSaid := fnExactValidLeases.over
end Go.Proofs.Ytgmmdpdlekpmfac
