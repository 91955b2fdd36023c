/- For every input the law answers true, and its argument read afterwards as before: impl.RecoverBook answers as its model. No condition. -/
import Derived.Test.YthagafkjlecagaaRows
import Derived.Test.YthagafkjlecagaaGrL
import Derived.Test.YthagafkjlecagaaGrK
import Derived.WalkKit
import Derived.Deep.RegionHeld3
import Derived.Deep.RegionWith
import Derived.Deep.QuietTactic
import Derived.BigQuiet
import Derived.RegionTactic
import Derived.BigRegion
import Derived.ProofKit
import Derived.OpenShut
import Derived.ShutString
import Derived.ChangeOld
import Derived.Below
import Derived.Lib.SmallJoins
namespace Go.Proofs.Ythagafkjlecagaa.fnExactRecoverBook
open Go.ChangeShapes Go.WideShapes Go.ChangeAt Go.RowKit Go.Joins
open Go.ChangeMaps (open_string shut_string)
set_option linter.unusedVariables false
set_option linter.unusedSimpArgs false

theorem own : ownKnob Try.prog.godebug = none := by kernel_rfl
theorem laidOut : laidOutB Try.prog = true := by kernel_rfl

set_option maxRecDepth 100000 in
set_option maxHeartbeats 8000000 in
theorem walk (s0 : ByteArray) (w : World) (w0 : s0.size ≤ maxLen) :
    Calls Try.prog 8 #[.string s0] w fun e w' => e = .returned (.bool true) ∧ Below w.heap.size w w' := by
  by_cases big : (1048576 : Int) < (s0.size : Int)
  · go_enter Try.func8, Try.ntmps8
    go_wp2
    go_ret
    exact ⟨rfl, Below.refl _ _⟩
  have n1 : s0.size ≤ 1048576 := by omega
  have B := Below.refl w.heap.size w
  have CS := Lib.hid (fun W => sRecB s0 W n1)
  have CI := Lib.hid (fun W => iRecB s0 W n1)
  obtain ⟨es, hr⟩ : ∃ es, recB s0 = es := ⟨_, rfl⟩
  rw [hr] at CS CI
  clear hr
  go_enter Try.func8, Try.ntmps8
  go_wp2_with fail
  refine (CS.out _).mono ?_
  rintro e u1 ⟨b1, k1, rfl, I1, h12, h60, C⟩
  replace B := bel_tr B C
  have HB0 := B.size
  have h48 : ∀ j, j < es.length → (es.getD j ev0).dd.zs.length ≤ 1048576 := fun j hj => Nat.le_trans (h12 j hj) (by omega)
  have H12 := Lib.hid h12
  have H48 := Lib.hid h48
  have hne : es.length ≤ 1048576 := by omega
  have D := Below.refl u1.heap.size u1
  clear C h12 h48
  go_wp2_with fail
  refine (CI.out _).mono ?_
  rintro e u2 ⟨v, V, rfl, O, _, C⟩
  replace B := bel_tr B C
  replace D := bel_tr D C
  clear C
  obtain ⟨b, c, rfl⟩ := O.forms
  have CE := leqEs b b1 c k1 es u2 (O.isb H48.out) (evs_below I1 D) hne
  go_wp2_with fail
  refine CE.mono ?_
  rintro e u3 ⟨rfl, C⟩
  replace B := bel_tr B C
  replace D := bel_tr D C
  replace O := O.next C
  clear C CE
  have CM := lmarkEs b c u1.heap.size es V u3 O h60 H12.out
  go_wp2_with fail
  refine CM.mono ?_
  rintro e u4 ⟨rfl, M, cl⟩
  replace B := cl w HB0 B
  replace D := cl u1 (Nat.le_refl _) D
  clear cl CM O
  have hs := sK_bd es H12.out es.length (Nat.le_refl _)
  generalize hS : sK es es.length = S at *
  have HS := Lib.hid hS
  have e1 : decide (S < 0) = false := decide_eq_false (by omega)
  have e2 : ¬ S < 0 := by omega
  have e3 : (S != S) = false := by simp
  have CH := lheldEs b c u1.heap.size es V u4 M h60 H12.out
  rw [hS] at CH
  clear hS hs
  go_wp2_with fail
  refine CH.mono ?_
  rintro e w' ⟨rfl, rfl⟩
  go_wp2_with fail
  refine (CI.out _).mono ?_
  rintro e u5 ⟨v2, V2, rfl, O, _, C⟩
  replace B := bel_tr B C
  replace D := bel_tr D C
  replace M := M.next C
  clear C CH
  obtain ⟨b2, c2, rfl⟩ := O.forms
  have CE := leqEs b2 b1 c2 k1 es u5 (O.isb H48.out) (evs_below I1 D) hne
  go_wp2_with fail
  refine CE.mono ?_
  rintro e u6 ⟨rfl, C⟩
  replace B := bel_tr B C
  replace M := M.next C
  clear C CE O D
  have CH := lheldEs b c u1.heap.size es V u6 M h60 H12.out
  rw [HS.out] at CH
  go_wp2_with fail
  refine CH.mono ?_
  rintro e w' ⟨rfl, rfl⟩
  go_wp2_with fail
  go_ret
  exact ⟨rfl, B⟩

set_option maxRecDepth 100000 in
theorem lifted (os : Os) (started : os.Started) (H : Type) (enc : TypeId × Value → H) :
    ReturnsInHanded {} Try.checked os 8 .any (Rows.fnExactRecoverBookSpec.pre6 enc Try.prog Try.f8 Rows.fnExactRecoverBookRow.domain false) (Rows.fnExactRecoverBookSpec.post enc Try.prog Try.f8 false true false false) := by
  refine returnsInHanded_of_change (C := Try.checked) own started (by kernel_rfl) Try.func8
    (ChangeSpec.witness6 (enc := enc) (C := Try.checked) false ⟨#[], #[.string ByteArray.empty], []⟩ 8 (by kernel_rfl) (by kernel_rfl) (by kernel_rfl) (by kernel_rfl)) ?_
  intro W base args ds gs before hval0 hW hcnd _
  have hval : ∀ (j : Nat) t v, Try.f8.params[j]? = some t → args[j]? = some v → Value.okWide Try.prog W .any base t v := hval0
  have hW' := hW
  obtain ⟨p, q, hA0, hV, rfl, hfz, hnd⟩ := hW
  have hA : DataW.TrodAll enc Try.prog W 0 (fun _ => true) true Try.f8.params.toList args.toList ds p := hA0
  rw [Try.params8] at hA hval
  obtain ⟨v0, vs0, e0, es0, p0, q0, hargs, rfl, rfl, h0, r0⟩ := trodAll_cons hA
  obtain ⟨rfl, rfl, rfl⟩ := trodAll_nil r0
  obtain rfl : args = #[v0] := by cases args; simp_all
  obtain ⟨rfl, rfl⟩ := trodVars_none hV
  have k0 := h0
  have lt0 : ∀ x ∈ p0, x.block < W.heap.size := by obtain ⟨m, hm⟩ := k0; exact DataW.trod_lt m _ _ _ hm
  obtain ⟨s0, rfl, _, _, w0⟩ := open_string Try.underlying9 (hval 0 9 v0 rfl rfl) h0
  clear hA0 hval0
  refine (walk s0 W w0).mono fun e W' ⟨he, bel⟩ => ?_
  subst he
  exact ⟨_, rfl, _, _, _, [], _, [], hW', trodAll_mk1 (shut_bool Try.underlying4 _), (trodAll_cons_mk (Below.trod laidOut (by kernel_rfl) (of_decide_eq_true (by kernel_rfl)) k0 bel lt0) trodAll_mk0), rfl, bel.frame _, fun h => by cases h⟩

theorem over : Rows.fnExactRecoverBookRow.holds Try.pinned (OpenSpec.ofChange Rows.fnExactRecoverBookSpec) :=
  OpenClaim.holds_of_wide 8 Try.f8 rfl rfl rfl rfl rfl rfl rfl ⟨rfl, rfl, rfl, rfl, rfl⟩ rfl rfl rfl rfl rfl (by kernel_rfl) Try.func8 (by kernel_rfl)
    (of_decide_eq_true (by kernel_rfl)) (by unfold Func.isWrapper; first | (rw [if_pos (by decide +kernel)]; kernel_rfl) | (rw [if_neg (by decide +kernel)]; exact ⟨rfl, rfl⟩))
    (fun os started H enc _ => lifted os started H enc)

end Go.Proofs.Ythagafkjlecagaa.fnExactRecoverBook
namespace Go.Proofs.Ythagafkjlecagaa
/-- the statement -/
theorem fnExactRecoverBook_holds : Rows.FnExactRecoverBookSaid := fnExactRecoverBook.over
end Go.Proofs.Ythagafkjlecagaa
