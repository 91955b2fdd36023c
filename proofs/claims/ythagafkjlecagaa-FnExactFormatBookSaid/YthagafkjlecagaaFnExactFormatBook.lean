/- For every input the law answers true, and its arguments read afterwards as before: impl.FormatBook answers as its model. No condition. -/
import Derived.Test.YthagafkjlecagaaRows
import Derived.Test.YthagafkjlecagaaGrK
import Derived.WalkKit
import Derived.Deep.RegionHeld3
import Derived.Deep.RegionWith
import Derived.Deep.QuietTactic
import Derived.BigQuiet
import Derived.RegionTactic
import Derived.BigRegion
import Derived.ProofKit
import Derived.OpenShut
import Derived.ShutString
import Derived.ChangeOld
import Derived.Below
import Derived.Lib.SmallJoins
namespace Go.Proofs.Ythagafkjlecagaa.fnExactFormatBook
open Go.ChangeShapes Go.WideShapes Go.ChangeAt Go.RowKit Go.Joins
open Go.ChangeMaps (open_string shut_string)
set_option linter.unusedVariables false
set_option linter.unusedSimpArgs false

theorem own : ownKnob Try.prog.godebug = none := by kernel_rfl
theorem laidOut : laidOutB Try.prog = true := by kernel_rfl

set_option maxRecDepth 100000 in
set_option maxHeartbeats 8000000 in
theorem walk (a0 : Option Addr) (len0 cap0 : Nat) (x0 : List Ev) (w : World) (w0 : EvsIn w a0 len0 cap0 x0) :
    Calls Try.prog 7 #[.slice a0 len0 cap0] w fun e w' => e = .returned (.bool true) ∧ Below w.heap.size w w' := by
  obtain ⟨hle, hraw, hlc, hlm, hzm⟩ := w0
  subst hle
  obtain ⟨es, hes⟩ : ∃ es, es = x0 := ⟨_, rfl⟩
  subst hes
  have m0 : es.length ≤ 9223372036854775807 := by unfold maxLen at hlm; omega
  have m1 : ∀ i, i < es.length → (es.getD i ev0).dd.zs.length ≤ 9223372036854775807 := fun i hi => by have := hzm i hi; unfold maxLen at this; omega
  have CZ := lszEs a0 cap0 es 1048576 w hraw (by omega) (by omega) m0 m1
  obtain ⟨z, hz⟩ : ∃ z, szSS 1048576 (zse es) = z := ⟨_, rfl⟩
  rw [hz] at CZ
  have B := Below.refl w.heap.size w
  by_cases bigz : z < 0
  · have e8 : decide (z < 0) = true := decide_eq_true bigz
    clear hz bigz m0 m1 hraw hzm
    go_enter Try.func7, Try.ntmps7
    go_wp2_with fail
    refine CZ.mono ?_
    rintro e u1 ⟨rfl, C⟩
    go_wp2_with fail
    go_ret
    exact ⟨rfl, C⟩
  have e8 : decide (z < 0) = false := decide_eq_false bigz
  have hzp : ¬ szSS 1048576 (zse es) < 0 := by rw [hz]; exact bigz
  obtain ⟨nd0, ndr⟩ := szSS_pos hzp (by omega)
  rw [zse_len] at nd0
  have nd : es.length ≤ 1048576 := by omega
  have NZ : Hid (∀ i, i < es.length → (es.getD i ev0).dd.zs.length ≤ 1048576) := fun i hi => by
    have := ndr _ (rows_mem (rs := zse es) (k := i) (by rw [zse_len]; exact hi))
    rw [zse_get] at this
    omega
  have hd0 := Lib.hid (esRaw_is hraw NZ.out)
  have CS := Lib.hid (fun A c W (h : IsEvs W A es) => sFmtB A c es W h nd)
  have CI := Lib.hid (fun A c W (h : IsEvs W A es) => iFmtB A c es W h nd)
  obtain ⟨T, hT⟩ : ∃ T, bkT es = T := ⟨_, rfl⟩
  rw [hT] at CS CI
  clear hz hzp bigz m0 m1 hraw hzm ndr hT nd0
  go_enter Try.func7, Try.ntmps7
  go_wp2_with fail
  refine CZ.mono ?_
  rintro e u1 ⟨rfl, C⟩
  replace B := bel_tr B C
  clear C CZ
  go_wp2_with fail
  refine (ltoEs a0 cap0 es _ (evs_below hd0.out B) nd).mono ?_
  rintro e u2 ⟨g1, G1, rfl, l1, T1, C⟩
  replace B := bel_tr B C
  clear C
  go_wp2_with fail
  refine (CS.out _ _ _ (T1.is NZ.out)).mono ?_
  rintro e u3 ⟨rfl, C⟩
  replace B := bel_tr B C
  clear C T1 l1
  go_wp2_with fail
  refine (ltoEs a0 cap0 es _ (evs_below hd0.out B) nd).mono ?_
  rintro e u4 ⟨g2, G2, rfl, l2, T2, C⟩
  replace B := bel_tr B C
  clear C
  go_wp2_with fail
  refine (CI.out _ _ _ (T2.is NZ.out)).mono ?_
  rintro e u5 ⟨rfl, C⟩
  replace B := bel_tr B C
  replace T2 := T2.next C
  clear C
  go_wp2_with fail
  refine (ltoEs a0 cap0 es _ (evs_below hd0.out B) nd).mono ?_
  rintro e u6 ⟨g3, G3, rfl, l3, T3, C⟩
  replace B := bel_tr B C
  replace T2 := T2.next C
  clear C
  go_wp2_with fail
  refine (leqEs _ _ _ _ es _ (T2.is NZ.out) (T3.is NZ.out) nd).mono ?_
  rintro e u7 ⟨rfl, C⟩
  replace B := bel_tr B C
  go_wp2_with fail
  go_ret
  exact ⟨rfl, B⟩

set_option maxRecDepth 100000 in
theorem lifted (os : Os) (started : os.Started) (H : Type) (enc : TypeId × Value → H) :
    ReturnsInHanded {} Try.checked os 7 .any (Rows.fnExactFormatBookSpec.pre6 enc Try.prog Try.f7 Rows.fnExactFormatBookRow.domain false) (Rows.fnExactFormatBookSpec.post enc Try.prog Try.f7 false true false false) := by
  refine returnsInHanded_of_change (C := Try.checked) own started (by kernel_rfl) Try.func7
    (ChangeSpec.witness6 (enc := enc) (C := Try.checked) false ⟨#[], #[.slice none 0 0], []⟩ 8 (by kernel_rfl) (by kernel_rfl) (by kernel_rfl) (by kernel_rfl)) ?_
  intro W base args ds gs before hval0 hW hcnd _
  have hval : ∀ (j : Nat) t v, Try.f7.params[j]? = some t → args[j]? = some v → Value.okWide Try.prog W .any base t v := hval0
  have hW' := hW
  obtain ⟨p, q, hA0, hV, rfl, hfz, hnd⟩ := hW
  have hA : DataW.TrodAll enc Try.prog W 0 (fun _ => true) true Try.f7.params.toList args.toList ds p := hA0
  rw [Try.params7] at hA hval
  obtain ⟨v0, vs0, e0, es0, p0, q0, hargs, rfl, rfl, h0, r0⟩ := trodAll_cons hA
  obtain ⟨rfl, rfl, rfl⟩ := trodAll_nil r0
  obtain rfl : args = #[v0] := by cases args; simp_all
  obtain ⟨rfl, rfl⟩ := trodVars_none hV
  have k0 := h0
  have lt0 : ∀ x ∈ p0, x.block < W.heap.size := by obtain ⟨m, hm⟩ := k0; exact DataW.trod_lt m _ _ _ hm
  obtain ⟨a0, len0, cap0, rfl⟩ := okWide_slice Try.underlying47 (hval 0 47 v0 rfl rfl)
  obtain ⟨x0, w0⟩ : ∃ xs, EvsIn W a0 len0 cap0 xs := by
    obtain ⟨fuel, hf⟩ := h0
    exact open_evs hf
  clear hA0 hval0
  refine (walk a0 len0 cap0 x0 W w0).mono fun e W' ⟨he, bel⟩ => ?_
  subst he
  exact ⟨_, rfl, _, _, _, [], _, [], hW', trodAll_mk1 (shut_bool Try.underlying4 _), (trodAll_cons_mk (Below.trod laidOut (by kernel_rfl) (of_decide_eq_true (by kernel_rfl)) k0 bel lt0) trodAll_mk0), rfl, bel.frame _, fun h => by cases h⟩

theorem over : Rows.fnExactFormatBookRow.holds Try.pinned (OpenSpec.ofChange Rows.fnExactFormatBookSpec) :=
  OpenClaim.holds_of_wide 7 Try.f7 rfl rfl rfl rfl rfl rfl rfl ⟨rfl, rfl, rfl, rfl, rfl⟩ rfl rfl rfl rfl rfl (by kernel_rfl) Try.func7 (by kernel_rfl)
    (of_decide_eq_true (by kernel_rfl)) (by unfold Func.isWrapper; first | (rw [if_pos (by decide +kernel)]; kernel_rfl) | (rw [if_neg (by decide +kernel)]; exact ⟨rfl, rfl⟩))
    (fun os started H enc _ => lifted os started H enc)

end Go.Proofs.Ythagafkjlecagaa.fnExactFormatBook
namespace Go.Proofs.Ythagafkjlecagaa
/-- the statement -/
theorem fnExactFormatBook_holds : Rows.FnExactFormatBookSaid := fnExactFormatBook.over
end Go.Proofs.Ythagafkjlecagaa
