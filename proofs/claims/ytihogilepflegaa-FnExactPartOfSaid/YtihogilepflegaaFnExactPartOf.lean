/- For every input the law answers true, and its arguments read afterwards as before: impl.PartOf answers as its model. No condition. -/
import Derived.Test.YtihogilepflegaaRows
import Derived.Test.YtihogilepflegaaMake
import Derived.WalkKit
import Derived.ProofKit
import Derived.OpenShut
import Derived.ShutString
import Derived.ChangeOld
import Derived.Below
import Derived.Lib.SmallJoins
namespace Go.Proofs.Ytihogilepflegaa.fnExactPartOf
open Go.ChangeShapes Go.WideShapes Go.ChangeAt Go.RowKit Go.Joins
open Go.ChangeMaps (open_string shut_string)
set_option linter.unusedVariables false

theorem own : ownKnob Try.prog.godebug = none := by kernel_rfl
theorem laidOut : laidOutB Try.prog = true := by kernel_rfl

set_option maxHeartbeats 1000000 in
theorem walk (a0 : Int) (n1 d1 : Int) (w : World) (w0 : (Lit.int .i64 a0).wf = true) (w1 : (Lit.int .i64 n1).wf = true) (x1 : (Lit.int .i64 d1).wf = true) :
    Calls Try.prog 9 #[.int .i64 a0, .agg #[.int .i64 n1, .int .i64 d1]] w fun e w' => e = .returned (.bool true) ∧ Below w.heap.size w w' := by
  go_enter Try.func9, Try.ntmps9
  go_wp2_with fail
  refine (ltoFrac n1 d1 _).mono ?_
  rintro e w1 ⟨rfl, hb⟩
  have hB : Below w.heap.size w w1 := bel_tr (by go_grown) hb
  have hz := hb.size
  simp at hz
  obtain ⟨hc, hf⟩ := bcell hb
  have c0_1 := hc (w.heap.size) 0 (by simp <;> omega)
  have c1_1 := hc (w.heap.size) 1 (by simp <;> omega)
  simp [go_sem] at c0_1 c1_1
  clear hc hf
  clear hb
  go_wp2_with fail
  refine (sPart a0 n1 d1 _).mono ?_
  rintro e w2 ⟨rfl, hb⟩
  have hB2 : Below w.heap.size w w2 := bel_tr hB hb
  have hz2 := hb.size
  obtain ⟨hc, hf⟩ := bcell hb
  have c0_2 := (hc (w.heap.size) 0 (by omega)).trans c0_1
  have c1_2 := (hc (w.heap.size) 1 (by omega)).trans c1_1
  clear hc hf c0_1 c1_1
  clear hb
  go_wp2_with fail
  refine (ltoFrac n1 d1 _).mono ?_
  rintro e w3 ⟨rfl, hb⟩
  have hB3 : Below w.heap.size w w3 := bel_tr hB2 hb
  have hz3 := hb.size
  obtain ⟨hc, hf⟩ := bcell hb
  have c0_3 := (hc (w.heap.size) 0 (by omega)).trans c0_2
  have c1_3 := (hc (w.heap.size) 1 (by omega)).trans c1_2
  clear hc hf c0_2 c1_2
  clear hb
  go_wp2_with fail
  refine (iPart a0 n1 d1 _).mono ?_
  rintro e w4 ⟨rfl, hb⟩
  have hB4 : Below w.heap.size w w4 := bel_tr hB3 hb
  have hz4 := hb.size
  obtain ⟨hc, hf⟩ := bcell hb
  have c0_4 := (hc (w.heap.size) 0 (by omega)).trans c0_3
  have c1_4 := (hc (w.heap.size) 1 (by omega)).trans c1_3
  clear hc hf c0_3 c1_3
  clear hb
  go_wp2_with fail
  go_ret
  exact ⟨rfl, hB4⟩

set_option maxRecDepth 100000 in
theorem lifted (os : Os) (started : os.Started) (H : Type) (enc : TypeId × Value → H) :
    ReturnsInHanded {} Try.checked os 9 .any (Rows.fnExactPartOfSpec.pre6 enc Try.prog Try.f9 Rows.fnExactPartOfRow.domain false) (Rows.fnExactPartOfSpec.post enc Try.prog Try.f9 false true false false) := by
  refine returnsInHanded_of_change (C := Try.checked) own started (by kernel_rfl) Try.func9
    (ChangeSpec.witness6 (enc := enc) (C := Try.checked) false ⟨#[], #[.int .i64 0, .agg #[.int .i64 0, .int .i64 0]], []⟩ 8 (by kernel_rfl) (by kernel_rfl) (by kernel_rfl) (by kernel_rfl)) ?_
  intro W base args ds gs before hval0 hW hcnd _
  have hval : ∀ (j : Nat) t v, Try.f9.params[j]? = some t → args[j]? = some v → Value.okWide Try.prog W .any base t v := hval0
  have hW' := hW
  obtain ⟨p, q, hA0, hV, rfl, hfz, hnd⟩ := hW
  have hA : DataW.TrodAll enc Try.prog W 0 (fun _ => true) true Try.f9.params.toList args.toList ds p := hA0
  rw [Try.params9] at hA hval
  obtain ⟨v0, vs0, e0, es0, p0, q0, hargs, rfl, rfl, h0, r0⟩ := trodAll_cons hA
  obtain ⟨v1, vs1, e1, es1, p1, q1, rfl, rfl, rfl, h1, r1⟩ := trodAll_cons r0
  obtain ⟨rfl, rfl, rfl⟩ := trodAll_nil r1
  obtain rfl : args = #[v0, v1] := by cases args; simp_all
  obtain ⟨rfl, rfl⟩ := trodVars_none hV
  have k0 := h0
  have lt0 : ∀ x ∈ p0, x.block < W.heap.size := by obtain ⟨m, hm⟩ := k0; exact DataW.trod_lt m _ _ _ hm
  obtain ⟨a0, rfl, _, _, w0⟩ := open_int Try.underlying3 (hval 0 3 v0 rfl rfl) h0
  have k1 := h1
  have lt1 : ∀ x ∈ p1, x.block < W.heap.size := by obtain ⟨m, hm⟩ := k1; exact DataW.trod_lt m _ _ _ hm
  obtain ⟨c1, b1, y1, u1, m1, rfl, _, _, hy1, hu1⟩ := open_agg2 Try.underlying23 (by kernel_rfl) (by kernel_rfl) (hval 1 23 v1 rfl rfl) h1
  obtain ⟨n1, g1, _, w1⟩ := DataW.trod_int Try.underlying3 hy1
  obtain ⟨d1, j1, _, x1⟩ := DataW.trod_int Try.underlying3 hu1
  simp only [List.cons.injEq, and_true] at g1 j1
  subst g1 j1
  clear hA0 hval0
  refine (walk a0 n1 d1 W w0 w1 x1).mono fun e W' ⟨he, bel⟩ => ?_
  subst he
  exact ⟨_, rfl, _, _, _, [], _, [], hW', trodAll_mk1 (shut_bool Try.underlying4 _), (trodAll_cons_mk (Below.trod laidOut (by kernel_rfl) (of_decide_eq_true (by kernel_rfl)) k0 bel lt0) (trodAll_cons_mk (Below.trod laidOut (by kernel_rfl) (of_decide_eq_true (by kernel_rfl)) k1 bel lt1) trodAll_mk0)), rfl, bel.frame _, fun h => by cases h⟩

theorem over : Rows.fnExactPartOfRow.holds Try.pinned (OpenSpec.ofChange Rows.fnExactPartOfSpec) :=
  OpenClaim.holds_of_wide 9 Try.f9 rfl rfl rfl rfl rfl rfl rfl ⟨rfl, rfl, rfl, rfl, rfl⟩ rfl rfl rfl rfl rfl (by kernel_rfl) Try.func9 (by kernel_rfl)
    (of_decide_eq_true (by kernel_rfl)) (by unfold Func.isWrapper; first | (rw [if_pos (by decide +kernel)]; kernel_rfl) | (rw [if_neg (by decide +kernel)]; exact ⟨rfl, rfl⟩))
    (fun os started H enc _ => lifted os started H enc)

end Go.Proofs.Ytihogilepflegaa.fnExactPartOf
namespace Go.Proofs.Ytihogilepflegaa
/-- the statement -/
theorem fnExactPartOf_holds : Rows.FnExactPartOfSaid := fnExactPartOf.over
end Go.Proofs.Ytihogilepflegaa
