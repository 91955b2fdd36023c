/- For every input the law answers true, and its arguments read afterwards as before: impl.FormatFrac answers as its model. No condition. -/
import Derived.Test.YthmengblppdggabRows
import Derived.Test.YthmengblppdggabParS
import Derived.Test.YthmengblppdggabCopy
import Derived.WalkKit
import Derived.ProofKit
import Derived.OpenShut
import Derived.ShutString
import Derived.ChangeOld
import Derived.Below
import Derived.Lib.SmallJoins
namespace Go.Proofs.Ythmengblppdggab.fnExactFormatFrac
open Go.ChangeShapes Go.WideShapes Go.ChangeAt Go.RowKit Go.Joins
open Go.ChangeMaps (open_string shut_string)
set_option linter.unusedVariables false

theorem own : ownKnob Try.prog.godebug = none := by kernel_rfl
theorem laidOut : laidOutB Try.prog = true := by kernel_rfl

set_option maxHeartbeats 1000000 in
theorem walk (n0 d0 : Int) (w : World) (w0 : (Lit.int .i64 n0).wf = true) (x0 : (Lit.int .i64 d0).wf = true) :
    Calls Try.prog 5 #[.agg #[.int .i64 n0, .int .i64 d0]] w fun e w' => e = .returned (.bool true) ∧ Below w.heap.size w w' := by
  have HT : Hid (((fmF n0 d0).toList == (fmF n0 d0).toList) = true) := Lib.hid (by simp)
  go_enter Try.func5, Try.ntmps5
  go_wp2_with fail
  refine (ltoFrac n0 d0 _).mono ?_
  rintro e w1 ⟨rfl, C1⟩
  have k1 := c2_below (c2_new w (.int .i64 n0) (.int .i64 d0) _) C1
  have B1 : Below w.heap.size w w1 := bel_tr (by go_grown) C1
  clear C1
  go_wp2_with fail
  refine (sFmt n0 d0 _).mono ?_
  rintro e w2 ⟨rfl, C2⟩
  have k2 := c2_below k1 C2
  have B2 := bel_tr B1 C2
  obtain ⟨c0, c1, f0, f1, hz⟩ := k2
  clear B1 C2 k1
  go_wp2_with fail
  refine (ltoFrac n0 d0 _).mono ?_
  rintro e w3 ⟨rfl, C3⟩
  have B3 := bel_tr B2 C3
  clear B2 C3
  go_wp2_with fail
  refine (iFmt n0 d0 _).mono ?_
  rintro e w4 ⟨rfl, C4⟩
  have B4 := bel_tr B3 C4
  clear B3 C4
  go_wp2_with fail
  go_ret
  exact ⟨rfl, B4⟩

set_option maxRecDepth 100000 in
theorem lifted (os : Os) (started : os.Started) (H : Type) (enc : TypeId × Value → H) :
    ReturnsInHanded {} Try.checked os 5 .any (Rows.fnExactFormatFracSpec.pre6 enc Try.prog Try.f5 Rows.fnExactFormatFracRow.domain false) (Rows.fnExactFormatFracSpec.post enc Try.prog Try.f5 false true false false) := by
  refine returnsInHanded_of_change (C := Try.checked) own started (by kernel_rfl) Try.func5
    (ChangeSpec.witness6 (enc := enc) (C := Try.checked) false ⟨#[], #[.agg #[.int .i64 0, .int .i64 0]], []⟩ 8 (by kernel_rfl) (by kernel_rfl) (by kernel_rfl) (by kernel_rfl)) ?_
  intro W base args ds gs before hval0 hW hcnd _
  have hval : ∀ (j : Nat) t v, Try.f5.params[j]? = some t → args[j]? = some v → Value.okWide Try.prog W .any base t v := hval0
  have hW' := hW
  obtain ⟨p, q, hA0, hV, rfl, hfz, hnd⟩ := hW
  have hA : DataW.TrodAll enc Try.prog W 0 (fun _ => true) true Try.f5.params.toList args.toList ds p := hA0
  rw [Try.params5] at hA hval
  obtain ⟨v0, vs0, e0, es0, p0, q0, hargs, rfl, rfl, h0, r0⟩ := trodAll_cons hA
  obtain ⟨rfl, rfl, rfl⟩ := trodAll_nil r0
  obtain rfl : args = #[v0] := by cases args; simp_all
  obtain ⟨rfl, rfl⟩ := trodVars_none hV
  have k0 := h0
  have lt0 : ∀ x ∈ p0, x.block < W.heap.size := by obtain ⟨m, hm⟩ := k0; exact DataW.trod_lt m _ _ _ hm
  obtain ⟨c0, b0, y0, u0, m0, rfl, _, _, hy0, hu0⟩ := open_agg2 Try.underlying33 (by kernel_rfl) (by kernel_rfl) (hval 0 33 v0 rfl rfl) h0
  obtain ⟨n0, g0, _, w0⟩ := DataW.trod_int Try.underlying3 hy0
  obtain ⟨d0, j0, _, x0⟩ := DataW.trod_int Try.underlying3 hu0
  simp only [List.cons.injEq, and_true] at g0 j0
  subst g0 j0
  clear hA0 hval0
  refine (walk n0 d0 W w0 x0).mono fun e W' ⟨he, bel⟩ => ?_
  subst he
  exact ⟨_, rfl, _, _, _, [], _, [], hW', trodAll_mk1 (shut_bool Try.underlying4 _), (trodAll_cons_mk (Below.trod laidOut (by kernel_rfl) (of_decide_eq_true (by kernel_rfl)) k0 bel lt0) trodAll_mk0), rfl, bel.frame _, fun h => by cases h⟩

theorem over : Rows.fnExactFormatFracRow.holds Try.pinned (OpenSpec.ofChange Rows.fnExactFormatFracSpec) :=
  OpenClaim.holds_of_wide 5 Try.f5 rfl rfl rfl rfl rfl rfl rfl ⟨rfl, rfl, rfl, rfl, rfl⟩ rfl rfl rfl rfl rfl (by kernel_rfl) Try.func5 (by kernel_rfl)
    (of_decide_eq_true (by kernel_rfl)) (by unfold Func.isWrapper; first | (rw [if_pos (by decide +kernel)]; kernel_rfl) | (rw [if_neg (by decide +kernel)]; exact ⟨rfl, rfl⟩))
    (fun os started H enc _ => lifted os started H enc)

end Go.Proofs.Ythmengblppdggab.fnExactFormatFrac
namespace Go.Proofs.Ythmengblppdggab
/-- the statement -/
theorem fnExactFormatFrac_holds : Rows.FnExactFormatFracSaid := fnExactFormatFrac.over
end Go.Proofs.Ythmengblppdggab
