/- For every input the law answers true, and its arguments read afterwards as before: impl.ValidBasin answers as its model. No condition. -/
import Derived.Test.YtongnppjekjmdaaRows
import Derived.Test.YtongnppjekjmdaaBasK
import Derived.Test.YtongnppjekjmdaaBasS
import Derived.WalkKit
import Derived.ProofKit
import Derived.OpenShut
import Derived.ShutString
import Derived.ChangeOld
import Derived.Below
import Derived.Lib.SmallJoins
namespace Go.Proofs.Ytongnppjekjmdaa.fnExactValidBasin
open Go.ChangeShapes Go.WideShapes Go.ChangeAt Go.RowKit Go.Joins
open Go.ChangeMaps (open_string shut_string)
set_option linter.unusedVariables false
set_option linter.unusedSimpArgs false

theorem own : ownKnob Try.prog.godebug = none := by kernel_rfl
theorem laidOut : laidOutB Try.prog = true := by kernel_rfl

set_option maxRecDepth 100000 in
set_option maxHeartbeats 6000000 in
theorem walk (n0 d0 : Int) (w : World) (w0 : (Lit.int .i64 n0).wf = true) (x0 : (Lit.int .i64 d0).wf = true) :
    Calls Try.prog 3 #[.agg #[.int .i64 n0, .int .i64 d0]] w fun e w' => e = .returned (.bool true) ∧ Below w.heap.size w w' := by
  obtain ⟨V, hV⟩ : ∃ V, vbB n0 d0 = V := ⟨_, rfl⟩
  have CS : ∀ (W : World), Calls Try.prog 14 #[.agg #[.int .i64 n0, .int .i64 d0]] W fun e w' => e = .returned (.bool V) ∧ Below W.heap.size W w' := fun  W  => by rw [← hV]; exact sVB n0 d0 W
  have CI : ∀ (W : World), Calls Try.prog 16 #[.agg #[.int .i64 n0, .int .i64 d0]] W fun e w' => e = .returned (.bool V) ∧ Below W.heap.size W w' := fun  W  => by rw [← hV]; exact iVB n0 d0 W
  clear hV
  have HCS := Lib.hid CS
  have HCI := Lib.hid CI
  clear CS CI
  go_enter Try.func3, Try.ntmps3
  have B := Below.refl w.heap.size w
  have K := Blk.new w 23 #[.int .i64 n0, .int .i64 d0]
  replace B := B.alloc B.size (.cells #[.int .i64 n0, .int .i64 d0] 23)
  obtain ⟨f0K, f1K, f2K, f3K, f4K⟩ := blk_two K
  go_wp2_with fail
  clear f0K f1K f2K f3K f4K
  refine (ltoBasin n0 d0 _).mono ?_
  rintro e u1_ ⟨rfl, C⟩
  replace B := bel_tr B C
  replace K := K.next C
  clear C
  obtain ⟨f0K, f1K, f2K, f3K, f4K⟩ := blk_two K
  go_wp2_with fail
  clear f0K f1K f2K f3K f4K
  refine (HCS.out _ ).mono ?_
  rintro e u2_ ⟨rfl, C⟩
  replace B := bel_tr B C
  replace K := K.next C
  clear C
  obtain ⟨f0K, f1K, f2K, f3K, f4K⟩ := blk_two K
  go_wp2_with fail
  clear f0K f1K f2K f3K f4K
  refine (ltoBasin n0 d0 _).mono ?_
  rintro e u3_ ⟨rfl, C⟩
  replace B := bel_tr B C
  replace K := K.next C
  clear C
  obtain ⟨f0K, f1K, f2K, f3K, f4K⟩ := blk_two K
  go_wp2_with fail
  clear f0K f1K f2K f3K f4K
  refine (HCI.out _ ).mono ?_
  rintro e u4_ ⟨rfl, C⟩
  replace B := bel_tr B C
  replace K := K.next C
  clear C
  obtain ⟨f0K, f1K, f2K, f3K, f4K⟩ := blk_two K
  go_wp2_with fail
  clear f0K f1K f2K f3K f4K
  go_ret
  exact ⟨rfl, B⟩

set_option maxRecDepth 100000 in
theorem lifted (os : Os) (started : os.Started) (H : Type) (enc : TypeId × Value → H) :
    ReturnsInHanded {} Try.checked os 3 .any (Rows.fnExactValidBasinSpec.pre6 enc Try.prog Try.f3 Rows.fnExactValidBasinRow.domain false) (Rows.fnExactValidBasinSpec.post enc Try.prog Try.f3 false true false false) := by
  refine returnsInHanded_of_change (C := Try.checked) own started (by kernel_rfl) Try.func3
    (ChangeSpec.witness6 (enc := enc) (C := Try.checked) false ⟨#[], #[.agg #[.int .i64 0, .int .i64 0]], []⟩ 8 (by kernel_rfl) (by kernel_rfl) (by kernel_rfl) (by kernel_rfl)) ?_
  intro W base args ds gs before hval0 hW hcnd _
  have hval : ∀ (j : Nat) t v, Try.f3.params[j]? = some t → args[j]? = some v → Value.okWide Try.prog W .any base t v := hval0
  have hW' := hW
  obtain ⟨p, q, hA0, hV, rfl, hfz, hnd⟩ := hW
  have hA : DataW.TrodAll enc Try.prog W 0 (fun _ => true) true Try.f3.params.toList args.toList ds p := hA0
  rw [Try.params3] at hA hval
  obtain ⟨v0, vs0, e0, es0, p0, q0, hargs, rfl, rfl, h0, r0⟩ := trodAll_cons hA
  obtain ⟨rfl, rfl, rfl⟩ := trodAll_nil r0
  obtain rfl : args = #[v0] := by cases args; simp_all
  obtain ⟨rfl, rfl⟩ := trodVars_none hV
  have k0 := h0
  have lt0 : ∀ x ∈ p0, x.block < W.heap.size := by obtain ⟨m, hm⟩ := k0; exact DataW.trod_lt m _ _ _ hm
  obtain ⟨c0, b0, y0, u0, m0, rfl, _, _, hy0, hu0⟩ := open_agg2 Try.underlying23 (by kernel_rfl) (by kernel_rfl) (hval 0 23 v0 rfl rfl) h0
  obtain ⟨n0, g0, _, w0⟩ := DataW.trod_int Try.underlying3 hy0
  obtain ⟨d0, j0, _, x0⟩ := DataW.trod_int Try.underlying3 hu0
  simp only [List.cons.injEq, and_true] at g0 j0
  subst g0 j0
  clear hA0 hval0
  refine (walk n0 d0 W w0 x0).mono fun e W' ⟨he, bel⟩ => ?_
  subst he
  exact ⟨_, rfl, _, _, _, [], _, [], hW', trodAll_mk1 (shut_bool Try.underlying4 _), (trodAll_cons_mk (Below.trod laidOut (by kernel_rfl) (of_decide_eq_true (by kernel_rfl)) k0 bel lt0) trodAll_mk0), rfl, bel.frame _, fun h => by cases h⟩

theorem over : Rows.fnExactValidBasinRow.holds Try.pinned (OpenSpec.ofChange Rows.fnExactValidBasinSpec) :=
  OpenClaim.holds_of_wide 3 Try.f3 rfl rfl rfl rfl rfl rfl rfl ⟨rfl, rfl, rfl, rfl, rfl⟩ rfl rfl rfl rfl rfl (by kernel_rfl) Try.func3 (by kernel_rfl)
    (of_decide_eq_true (by kernel_rfl)) (by unfold Func.isWrapper; first | (rw [if_pos (by decide +kernel)]; kernel_rfl) | (rw [if_neg (by decide +kernel)]; exact ⟨rfl, rfl⟩))
    (fun os started H enc _ => lifted os started H enc)

end Go.Proofs.Ytongnppjekjmdaa.fnExactValidBasin
namespace Go.Proofs.Ytongnppjekjmdaa
/-- the statement -/
theorem fnExactValidBasin_holds : Rows.FnExactValidBasinSaid := fnExactValidBasin.over
end Go.Proofs.Ytongnppjekjmdaa
