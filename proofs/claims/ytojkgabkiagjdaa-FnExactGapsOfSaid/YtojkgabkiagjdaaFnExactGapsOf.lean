/- For every input the law answers true, and its arguments read afterwards as before: impl.GapsOf answers as its model. No condition. -/
import Derived.Test.YtojkgabkiagjdaaRows
import Derived.Test.YtojkgabkiagjdaaClmX
import Derived.WalkKit
import Derived.ProofKit
import Derived.OpenShut
import Derived.ShutString
import Derived.ChangeOld
import Derived.Below
import Derived.Lib.SmallJoins
namespace Go.Proofs.Ytojkgabkiagjdaa.fnExactGapsOf
open Go.ChangeShapes Go.WideShapes Go.ChangeAt Go.RowKit Go.Joins
open Go.ChangeMaps (open_string shut_string)
set_option linter.unusedVariables false
set_option linter.unusedSimpArgs false

theorem own : ownKnob Try.prog.godebug = none := by kernel_rfl
theorem laidOut : laidOutB Try.prog = true := by kernel_rfl

set_option maxRecDepth 100000 in
set_option maxHeartbeats 6000000 in
theorem walk (a0 : Option Addr) (len0 cap0 : Nat) (z0 : List Int) (w : World) (w0 : IsRow .i64 w a0 len0 cap0 z0) :
    Calls Try.prog 11 #[.slice a0 len0 cap0] w fun e w' => e = .returned (.bool true) ∧ Below w.heap.size w w' := by
  obtain ⟨zs0, rfl, hz0⟩ := row_is w0
  clear w0
  by_cases big0 : (1048576 : Int) < (zs0.length : Int)
  · go_enter Try.func11, Try.ntmps11
    go_wp2_with fail
    go_ret
    exact ⟨rfl, by go_grown⟩
  have nz0 : zs0.length ≤ 1048576 := by omega
  obtain ⟨V, hV⟩ : ∃ V, gapV zs0 = V := ⟨_, rfl⟩
  have CS : ∀ (A0 : Option Addr) (c0 : Nat) (W : World), IsInts W A0 zs0 → Calls Try.prog 33 #[.slice A0 zs0.length c0] W fun e w' => e = .returned (.int .i64 V) ∧ Below W.heap.size W w' := fun A0 c0 W h0 => by rw [← hV]; exact sGaps A0 c0 zs0 W h0 nz0
  have CI : ∀ (A0 : Option Addr) (c0 : Nat) (W : World), IsInts W A0 zs0 → Calls Try.prog 34 #[.slice A0 zs0.length c0] W fun e w' => e = .returned (.int .i64 V) ∧ Below W.heap.size W w' := fun A0 c0 W h0 => by rw [← hV]; exact iGaps A0 c0 zs0 W h0 nz0
  clear hV
  have HCS := Lib.hid CS
  have HCI := Lib.hid CI
  clear CS CI
  go_enter Try.func11, Try.ntmps11
  have B := Below.refl w.heap.size w
  go_wp2_with fail
  refine (ltoIntS a0 cap0 zs0 _ (ints_below hz0 B) nz0).mono ?_
  rintro e u1_ ⟨s0, rfl, ls0, Ts0, C⟩
  have ws0 : w.heap.size ≤ s0 := Nat.le_trans B.size ls0
  replace B := bel_tr B C
  clear C
  go_wp2_with fail
  refine (HCS.out _ _ _ (row_ints Ts0)).mono ?_
  rintro e u2_ ⟨rfl, C⟩
  replace B := bel_tr B C
  replace Ts0 := row_keep Ts0 C
  clear C
  clear Ts0
  go_wp2_with fail
  refine (ltoIntS a0 cap0 zs0 _ (ints_below hz0 B) nz0).mono ?_
  rintro e u3_ ⟨x0, rfl, lx0, Tx0, C⟩
  have wx0 : w.heap.size ≤ x0 := Nat.le_trans B.size lx0
  replace B := bel_tr B C
  clear C
  go_wp2_with fail
  refine (HCI.out _ _ _ (row_ints Tx0)).mono ?_
  rintro e u4_ ⟨rfl, C⟩
  replace B := bel_tr B C
  replace Tx0 := row_keep Tx0 C
  clear C
  go_wp2_with fail
  have lt_Tx0_y0 := World.rowIs.lt Tx0
  refine (ltoIntS a0 cap0 zs0 _ (ints_below hz0 B) nz0).mono ?_
  rintro e u5_ ⟨y0, rfl, ly0, Ty0, C⟩
  have wy0 : w.heap.size ≤ y0 := Nat.le_trans B.size ly0
  have ne_Tx0_y0 : x0 ≠ y0 := by omega
  have en_Tx0_y0 : y0 ≠ x0 := by omega
  replace B := bel_tr B C
  replace Tx0 := row_keep Tx0 C
  clear C
  go_wp2_with fail
  refine (leqIntS _ _ _ _ zs0 _ (row_ints Tx0) (row_ints Ty0) nz0).mono ?_
  rintro e u6_ ⟨rfl, C⟩
  replace B := bel_tr B C
  replace Tx0 := row_keep Tx0 C
  replace Ty0 := row_keep Ty0 C
  clear C
  clear Ty0
  go_wp2_with fail
  go_ret
  exact ⟨rfl, B⟩

set_option maxRecDepth 100000 in
theorem lifted (os : Os) (started : os.Started) (H : Type) (enc : TypeId × Value → H) :
    ReturnsInHanded {} Try.checked os 11 .any (Rows.fnExactGapsOfSpec.pre6 enc Try.prog Try.f11 Rows.fnExactGapsOfRow.domain false) (Rows.fnExactGapsOfSpec.post enc Try.prog Try.f11 false true false false) := by
  refine returnsInHanded_of_change (C := Try.checked) own started (by kernel_rfl) Try.func11
    (ChangeSpec.witness6 (enc := enc) (C := Try.checked) false ⟨#[], #[.slice none 0 0], []⟩ 8 (by kernel_rfl) (by kernel_rfl) (by kernel_rfl) (by kernel_rfl)) ?_
  intro W base args ds gs before hval0 hW hcnd _
  have hval : ∀ (j : Nat) t v, Try.f11.params[j]? = some t → args[j]? = some v → Value.okWide Try.prog W .any base t v := hval0
  have hW' := hW
  obtain ⟨p, q, hA0, hV, rfl, hfz, hnd⟩ := hW
  have hA : DataW.TrodAll enc Try.prog W 0 (fun _ => true) true Try.f11.params.toList args.toList ds p := hA0
  rw [Try.params11] at hA hval
  obtain ⟨v0, vs0, e0, es0, p0, q0, hargs, rfl, rfl, h0, r0⟩ := trodAll_cons hA
  obtain ⟨rfl, rfl, rfl⟩ := trodAll_nil r0
  obtain rfl : args = #[v0] := by cases args; simp_all
  obtain ⟨rfl, rfl⟩ := trodVars_none hV
  have k0 := h0
  have lt0 : ∀ x ∈ p0, x.block < W.heap.size := by obtain ⟨m, hm⟩ := k0; exact DataW.trod_lt m _ _ _ hm
  obtain ⟨a0, len0, cap0, rfl⟩ := okWide_slice Try.underlying22 (hval 0 22 v0 rfl rfl)
  obtain ⟨z0, w0⟩ : ∃ zs, IsRow .i64 W a0 len0 cap0 zs := by
    obtain ⟨fuel, hf⟩ := h0
    rcases open_ints Try.underlying22 Try.underlying3 (by kernel_rfl) hf with ⟨hcs, _⟩ | ⟨x, l, c, zs, hcs, _, hl, hm, hz, _, hcell, hwz⟩
    · simp [Value.cells] at hcs
      obtain ⟨rfl, rfl, rfl⟩ := hcs
      exact ⟨[], .inl ⟨rfl, rfl, rfl, rfl⟩⟩
    · simp [Value.cells] at hcs
      obtain ⟨rfl, rfl, rfl⟩ := hcs
      exact ⟨zs, .inr ⟨_, rfl, hl, hm, by simpa using hz, hcell, hwz⟩⟩
  clear hA0 hval0
  refine (walk a0 len0 cap0 z0 W w0).mono fun e W' ⟨he, bel⟩ => ?_
  subst he
  exact ⟨_, rfl, _, _, _, [], _, [], hW', trodAll_mk1 (shut_bool Try.underlying4 _), (trodAll_cons_mk (Below.trod laidOut (by kernel_rfl) (of_decide_eq_true (by kernel_rfl)) k0 bel lt0) trodAll_mk0), rfl, bel.frame _, fun h => by cases h⟩

theorem over : Rows.fnExactGapsOfRow.holds Try.pinned (OpenSpec.ofChange Rows.fnExactGapsOfSpec) :=
  OpenClaim.holds_of_wide 11 Try.f11 rfl rfl rfl rfl rfl rfl rfl ⟨rfl, rfl, rfl, rfl, rfl⟩ rfl rfl rfl rfl rfl (by kernel_rfl) Try.func11 (by kernel_rfl)
    (of_decide_eq_true (by kernel_rfl)) (by unfold Func.isWrapper; first | (rw [if_pos (by decide +kernel)]; kernel_rfl) | (rw [if_neg (by decide +kernel)]; exact ⟨rfl, rfl⟩))
    (fun os started H enc _ => lifted os started H enc)

end Go.Proofs.Ytojkgabkiagjdaa.fnExactGapsOf
namespace Go.Proofs.Ytojkgabkiagjdaa
/-- the statement -/
theorem fnExactGapsOf_holds : Rows.FnExactGapsOfSaid := fnExactGapsOf.over
end Go.Proofs.Ytojkgabkiagjdaa
