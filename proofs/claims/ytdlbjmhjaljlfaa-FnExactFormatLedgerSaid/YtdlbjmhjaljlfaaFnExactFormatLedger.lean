/- For every input the law answers true, and its arguments read afterwards as before: impl.FormatLedger answers as its model. No condition. -/
import Derived.Test.YtdlbjmhjaljlfaaRows
import Derived.Test.YtdlbjmhjaljlfaaLawH
import Derived.Test.YtdlbjmhjaljlfaaLgtS
import Derived.Test.YtdlbjmhjaljlfaaLgtI
import Derived.Test.YtdlbjmhjaljlfaaOpenH
import Derived.WalkKit
import Derived.ProofKit
import Derived.OpenShut
import Derived.ShutString
import Derived.ChangeOld
import Derived.Below
import Derived.Lib.SmallJoins
namespace Go.Proofs.Ytdlbjmhjaljlfaa.fnExactFormatLedger
open Go.ChangeShapes Go.WideShapes Go.ChangeAt Go.RowKit Go.Joins
open Go.ChangeMaps (open_string shut_string)
set_option linter.unusedVariables false

theorem own : ownKnob Try.prog.godebug = none := by kernel_rfl
theorem laidOut : laidOutB Try.prog = true := by kernel_rfl

set_option maxRecDepth 100000 in
set_option maxHeartbeats 2000000 in
theorem walk (a0 : Option Addr) (len0 cap0 : Nat) (hs0 : List Hd) (w : World) (w0 : HoldsIn w a0 len0 cap0 hs0) :
    Calls Try.prog 11 #[.slice a0 len0 cap0] w fun e w' => e = .returned (.bool true) ∧ Below w.heap.size w w' := by
  obtain ⟨rfl, h1, hlc, hcm⟩ := w0
  by_cases big : 1048576 < hs0.length
  · have hm2 : hs0.length ≤ 9223372036854775807 := by unfold maxLen at hcm; omega
    go_enter Try.func11, Try.ntmps11
    go_wp2_with fail
    refine (lszH_no a0 hs0.length cap0 _ big hm2).mono ?_
    rintro e w' ⟨rfl, rfl⟩
    go_wp2_with fail
    go_ret
    exact ⟨rfl, Below.refl _ _⟩
  have n1 : hs0.length ≤ 1048576 := by omega
  have B0 := Below.refl w.heap.size w
  obtain ⟨cd, hcd⟩ : ∃ cd, cd = flT hs0 := ⟨_, rfl⟩
  have HT : Hid ((cd.toList == cd.toList) = true) := Lib.hid (by simp)
  have SC := fun (a : Option Addr) (c : Nat) (W : World) (h : IsHs W a hs0) => sFmtL a c hs0 W h n1
  have IC := fun (a : Option Addr) (c : Nat) (W : World) (h : IsHs W a hs0) => iFmtL a c hs0 W h n1
  rw [← hcd] at SC IC
  have HS := Lib.hid SC
  have HIC := Lib.hid IC
  clear hcd SC IC
  go_enter Try.func11, Try.ntmps11
  go_wp2_with fail
  refine (lszH a0 hs0.length cap0 _ n1).mono ?_
  rintro e w' ⟨rfl, rfl⟩
  go_wp2_with fail
  refine (ltoH a0 cap0 hs0 _ (hs_below h1 B0) n1).mono ?_
  rintro e u1 ⟨g1, rfl, l1, R1, C1⟩
  have B1 := bel_tr B0 C1
  go_wp2_with fail
  refine (HS.out _ _ _ R1.hs).mono ?_
  rintro e u2 ⟨rfl, C2⟩
  have B2 := bel_tr B1 C2
  go_wp2_with fail
  refine (ltoH a0 cap0 hs0 _ (hs_below h1 B2) n1).mono ?_
  rintro e u3 ⟨g3, rfl, l3, R3, C3⟩
  have B3 := bel_tr B2 C3
  go_wp2_with fail
  refine (HIC.out _ _ _ R3.hs).mono ?_
  rintro e u4 ⟨rfl, C4⟩
  have B4 := bel_tr B3 C4
  go_wp2_with fail
  refine (ltoH a0 cap0 hs0 _ (hs_below h1 B4) n1).mono ?_
  rintro e u5 ⟨g5, rfl, l5, R5, C5⟩
  have B5 := bel_tr B4 C5
  go_wp2_with fail
  refine (leqH _ _ _ _ hs0 _ ((R3.next C4).next C5).hs R5.hs n1).mono ?_
  rintro e u6 ⟨rfl, C6⟩
  go_wp2_with fail
  go_ret
  exact ⟨rfl, bel_tr B5 C6⟩

set_option maxRecDepth 100000 in
theorem lifted (os : Os) (started : os.Started) (H : Type) (enc : TypeId × Value → H) :
    ReturnsInHanded {} Try.checked os 11 .any (Rows.fnExactFormatLedgerSpec.pre6 enc Try.prog Try.f11 Rows.fnExactFormatLedgerRow.domain false) (Rows.fnExactFormatLedgerSpec.post enc Try.prog Try.f11 false true false false) := by
  refine returnsInHanded_of_change (C := Try.checked) own started (by kernel_rfl) Try.func11
    (ChangeSpec.witness6 (enc := enc) (C := Try.checked) false ⟨#[], #[.slice none 0 0], []⟩ 8 (by kernel_rfl) (by kernel_rfl) (by kernel_rfl) (by kernel_rfl)) ?_
  intro W base args ds gs before hval0 hW hcnd _
  have hval : ∀ (j : Nat) t v, Try.f11.params[j]? = some t → args[j]? = some v → Value.okWide Try.prog W .any base t v := hval0
  have hW' := hW
  obtain ⟨p, q, hA0, hV, rfl, hfz, hnd⟩ := hW
  have hA : DataW.TrodAll enc Try.prog W 0 (fun _ => true) true Try.f11.params.toList args.toList ds p := hA0
  rw [Try.params11] at hA hval
  obtain ⟨v0, vs0, e0, es0, p0, q0, hargs, rfl, rfl, h0, r0⟩ := trodAll_cons hA
  obtain ⟨rfl, rfl, rfl⟩ := trodAll_nil r0
  obtain rfl : args = #[v0] := by cases args; simp_all
  obtain ⟨rfl, rfl⟩ := trodVars_none hV
  have k0 := h0
  have lt0 : ∀ x ∈ p0, x.block < W.heap.size := by obtain ⟨m, hm⟩ := k0; exact DataW.trod_lt m _ _ _ hm
  obtain ⟨a0, len0, cap0, rfl⟩ := okWide_slice Try.underlying50 (hval 0 50 v0 rfl rfl)
  obtain ⟨hs0, w0⟩ : ∃ hs, HoldsIn W a0 len0 cap0 hs := by
    obtain ⟨fuel, hf⟩ := h0
    exact open_holds hf
  clear hA0 hval0
  refine (walk a0 len0 cap0 hs0 W w0).mono fun e W' ⟨he, bel⟩ => ?_
  subst he
  exact ⟨_, rfl, _, _, _, [], _, [], hW', trodAll_mk1 (shut_bool Try.underlying4 _), (trodAll_cons_mk (Below.trod laidOut (by kernel_rfl) (of_decide_eq_true (by kernel_rfl)) k0 bel lt0) trodAll_mk0), rfl, bel.frame _, fun h => by cases h⟩

theorem over : Rows.fnExactFormatLedgerRow.holds Try.pinned (OpenSpec.ofChange Rows.fnExactFormatLedgerSpec) :=
  OpenClaim.holds_of_wide 11 Try.f11 rfl rfl rfl rfl rfl rfl rfl ⟨rfl, rfl, rfl, rfl, rfl⟩ rfl rfl rfl rfl rfl (by kernel_rfl) Try.func11 (by kernel_rfl)
    (of_decide_eq_true (by kernel_rfl)) (by unfold Func.isWrapper; first | (rw [if_pos (by decide +kernel)]; kernel_rfl) | (rw [if_neg (by decide +kernel)]; exact ⟨rfl, rfl⟩))
    (fun os started H enc _ => lifted os started H enc)

end Go.Proofs.Ytdlbjmhjaljlfaa.fnExactFormatLedger
namespace Go.Proofs.Ytdlbjmhjaljlfaa
/-- the statement -/
theorem fnExactFormatLedger_holds : Rows.FnExactFormatLedgerSaid := fnExactFormatLedger.over
end Go.Proofs.Ytdlbjmhjaljlfaa
