/- For every input the law answers true, and its arguments read afterwards as before: impl.StepBasin answers as its model. No condition. -/
import Derived.Test.YtongnppjekjmdaaRows
import Derived.Test.YtongnppjekjmdaaBasK
import Derived.Test.YtongnppjekjmdaaStepS
import Derived.WalkKit
import Derived.ProofKit
import Derived.OpenShut
import Derived.ShutString
import Derived.ChangeOld
import Derived.Below
import Derived.Lib.SmallJoins
namespace Go.Proofs.Ytongnppjekjmdaa.fnExactStepBasin
open Go.ChangeShapes Go.WideShapes Go.ChangeAt Go.RowKit Go.Joins
open Go.ChangeMaps (open_string shut_string)
set_option linter.unusedVariables false
set_option linter.unusedSimpArgs false

theorem own : ownKnob Try.prog.godebug = none := by kernel_rfl
theorem laidOut : laidOutB Try.prog = true := by kernel_rfl

set_option maxRecDepth 100000 in
set_option maxHeartbeats 4000000 in
theorem walk (n0 d0 : Int) (a1 : Int) (a2 : Int) (w : World) (w0 : (Lit.int .i64 n0).wf = true) (x0 : (Lit.int .i64 d0).wf = true) (w1 : (Lit.int .i64 a1).wf = true) (w2 : (Lit.int .i64 a2).wf = true) :
    Calls Try.prog 4 #[.agg #[.int .i64 n0, .int .i64 d0], .int .i64 a1, .int .i64 a2] w fun e w' => e = .returned (.bool true) ∧ Below w.heap.size w w' := by
  obtain ⟨x, y, g, s, hV⟩ := stV_form n0 d0 a1 a2
  have HV := Lib.hid hV
  clear hV
  go_enter Try.func4, Try.ntmps4
  have B := Below.refl w.heap.size w
  have K := Blk.new w 23 #[.int .i64 n0, .int .i64 d0]
  replace B := B.alloc B.size (.cells #[.int .i64 n0, .int .i64 d0] 23)
  obtain ⟨f0, f1, f2, f3, f4⟩ := blk_two K
  go_wp2_with fail
  clear f0 f1 f2 f3 f4
  obtain ⟨f0, f1, f2, f3, f4⟩ := blk_two K
  refine (ltoBasin n0 d0 _).mono ?_
  rintro e u1a ⟨rfl, C⟩
  replace K := K.next C
  replace B := bel_tr B C
  clear C f0 f1 f2 f3 f4
  go_wp2_with fail
  refine (sStep n0 d0 a1 a2 _).mono ?_
  rintro e u1 ⟨rfl, C⟩
  rw [HV.out]
  have K1 := Blk.new u1 25 #[.int .i64 x, .int .i64 y]
  replace K := (K.next C).alloc (.cells #[.int .i64 x, .int .i64 y] 25)
  replace B := (bel_tr B C).alloc (bel_tr B C).size (.cells #[.int .i64 x, .int .i64 y] 25)
  clear C
  obtain ⟨f0, f1, f2, f3, f4⟩ := blk_two K
  go_wp2_with fail
  clear f0 f1 f2 f3 f4
  obtain ⟨f0, f1, f2, f3, f4⟩ := blk_two K
  refine (ltoBasin n0 d0 _).mono ?_
  rintro e u2a ⟨rfl, C⟩
  replace K := K.next C
  replace B := bel_tr B C
  replace K1 := K1.next C
  clear C f0 f1 f2 f3 f4
  go_wp2_with fail
  refine (iStep n0 d0 a1 a2 _).mono ?_
  rintro e u2 ⟨rfl, C⟩
  rw [HV.out]
  have K2 := Blk.new u2 25 #[.int .i64 x, .int .i64 y]
  replace K1 := (K1.next C).alloc (.cells #[.int .i64 x, .int .i64 y] 25)
  replace B := (bel_tr B C).alloc (bel_tr B C).size (.cells #[.int .i64 x, .int .i64 y] 25)
  clear C K
  obtain ⟨f0, f1, f2, f3, f4⟩ := blk_two K1
  obtain ⟨g0, g1, g2, g3, g4⟩ := blk_two K2
  go_wp2_with fail
  refine (leqBasin x y _).mono ?_
  rintro e u3 ⟨rfl, C⟩
  replace B := bel_tr B C
  clear f0 f1 f2 f3 f4 g0 g1 g2 g3 g4 K1 K2
  go_wp2_with fail
  go_ret
  exact ⟨rfl, B⟩

set_option maxRecDepth 100000 in
theorem lifted (os : Os) (started : os.Started) (H : Type) (enc : TypeId × Value → H) :
    ReturnsInHanded {} Try.checked os 4 .any (Rows.fnExactStepBasinSpec.pre6 enc Try.prog Try.f4 Rows.fnExactStepBasinRow.domain false) (Rows.fnExactStepBasinSpec.post enc Try.prog Try.f4 false true false false) := by
  refine returnsInHanded_of_change (C := Try.checked) own started (by kernel_rfl) Try.func4
    (ChangeSpec.witness6 (enc := enc) (C := Try.checked) false ⟨#[], #[.agg #[.int .i64 0, .int .i64 0], .int .i64 0, .int .i64 0], []⟩ 8 (by kernel_rfl) (by kernel_rfl) (by kernel_rfl) (by kernel_rfl)) ?_
  intro W base args ds gs before hval0 hW hcnd _
  have hval : ∀ (j : Nat) t v, Try.f4.params[j]? = some t → args[j]? = some v → Value.okWide Try.prog W .any base t v := hval0
  have hW' := hW
  obtain ⟨p, q, hA0, hV, rfl, hfz, hnd⟩ := hW
  have hA : DataW.TrodAll enc Try.prog W 0 (fun _ => true) true Try.f4.params.toList args.toList ds p := hA0
  rw [Try.params4] at hA hval
  obtain ⟨v0, vs0, e0, es0, p0, q0, hargs, rfl, rfl, h0, r0⟩ := trodAll_cons hA
  obtain ⟨v1, vs1, e1, es1, p1, q1, rfl, rfl, rfl, h1, r1⟩ := trodAll_cons r0
  obtain ⟨v2, vs2, e2, es2, p2, q2, rfl, rfl, rfl, h2, r2⟩ := trodAll_cons r1
  obtain ⟨rfl, rfl, rfl⟩ := trodAll_nil r2
  obtain rfl : args = #[v0, v1, v2] := by cases args; simp_all
  obtain ⟨rfl, rfl⟩ := trodVars_none hV
  have k0 := h0
  have lt0 : ∀ x ∈ p0, x.block < W.heap.size := by obtain ⟨m, hm⟩ := k0; exact DataW.trod_lt m _ _ _ hm
  obtain ⟨c0, b0, y0, u0, m0, rfl, _, _, hy0, hu0⟩ := open_agg2 Try.underlying23 (by kernel_rfl) (by kernel_rfl) (hval 0 23 v0 rfl rfl) h0
  obtain ⟨n0, g0, _, w0⟩ := DataW.trod_int Try.underlying3 hy0
  obtain ⟨d0, j0, _, x0⟩ := DataW.trod_int Try.underlying3 hu0
  simp only [List.cons.injEq, and_true] at g0 j0
  subst g0 j0
  have k1 := h1
  have lt1 : ∀ x ∈ p1, x.block < W.heap.size := by obtain ⟨m, hm⟩ := k1; exact DataW.trod_lt m _ _ _ hm
  obtain ⟨a1, rfl, _, _, w1⟩ := open_int Try.underlying3 (hval 1 3 v1 rfl rfl) h1
  have k2 := h2
  have lt2 : ∀ x ∈ p2, x.block < W.heap.size := by obtain ⟨m, hm⟩ := k2; exact DataW.trod_lt m _ _ _ hm
  obtain ⟨a2, rfl, _, _, w2⟩ := open_int Try.underlying3 (hval 2 3 v2 rfl rfl) h2
  clear hA0 hval0
  refine (walk n0 d0 a1 a2 W w0 x0 w1 w2).mono fun e W' ⟨he, bel⟩ => ?_
  subst he
  exact ⟨_, rfl, _, _, _, [], _, [], hW', trodAll_mk1 (shut_bool Try.underlying4 _), (trodAll_cons_mk (Below.trod laidOut (by kernel_rfl) (of_decide_eq_true (by kernel_rfl)) k0 bel lt0) (trodAll_cons_mk (Below.trod laidOut (by kernel_rfl) (of_decide_eq_true (by kernel_rfl)) k1 bel lt1) (trodAll_cons_mk (Below.trod laidOut (by kernel_rfl) (of_decide_eq_true (by kernel_rfl)) k2 bel lt2) trodAll_mk0))), rfl, bel.frame _, fun h => by cases h⟩

theorem over : Rows.fnExactStepBasinRow.holds Try.pinned (OpenSpec.ofChange Rows.fnExactStepBasinSpec) :=
  OpenClaim.holds_of_wide 4 Try.f4 rfl rfl rfl rfl rfl rfl rfl ⟨rfl, rfl, rfl, rfl, rfl⟩ rfl rfl rfl rfl rfl (by kernel_rfl) Try.func4 (by kernel_rfl)
    (of_decide_eq_true (by kernel_rfl)) (by unfold Func.isWrapper; first | (rw [if_pos (by decide +kernel)]; kernel_rfl) | (rw [if_neg (by decide +kernel)]; exact ⟨rfl, rfl⟩))
    (fun os started H enc _ => lifted os started H enc)

end Go.Proofs.Ytongnppjekjmdaa.fnExactStepBasin
namespace Go.Proofs.Ytongnppjekjmdaa
/-- the statement -/
theorem fnExactStepBasin_holds : Rows.FnExactStepBasinSaid := fnExactStepBasin.over
end Go.Proofs.Ytongnppjekjmdaa
