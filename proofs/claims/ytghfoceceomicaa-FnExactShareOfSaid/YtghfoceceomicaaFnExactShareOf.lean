/- For every input the law answers true, and its arguments read afterwards as before: impl.ShareOf answers as its model. No condition. -/
import Derived.Test.YtghfoceceomicaaRows
import Derived.Test.YtghfoceceomicaaLawH
import Derived.Test.YtghfoceceomicaaShareOf
import Derived.Test.YtghfoceceomicaaOpenH
import Derived.WalkKit
import Derived.ProofKit
import Derived.OpenShut
import Derived.ShutString
import Derived.ChangeOld
import Derived.Below
import Derived.Lib.SmallJoins
namespace Go.Proofs.Ytghfoceceomicaa.fnExactShareOf
open Go.ChangeShapes Go.WideShapes Go.ChangeAt Go.RowKit Go.Joins
open Go.ChangeMaps (open_string shut_string)
set_option linter.unusedVariables false

theorem own : ownKnob Try.prog.godebug = none := by kernel_rfl
theorem laidOut : laidOutB Try.prog = true := by kernel_rfl

set_option maxRecDepth 100000 in
set_option maxHeartbeats 2000000 in
theorem walk (a0 : Option Addr) (len0 cap0 : Nat) (hs0 : List Hd) (a1 : Int) (w : World) (w0 : HoldsIn w a0 len0 cap0 hs0) (w1 : (Lit.int .i64 a1).wf = true) :
    Calls Try.prog 4 #[.slice a0 len0 cap0, .int .i64 a1] w fun e w' => e = .returned (.bool true) ∧ Below w.heap.size w w' := by
  obtain ⟨rfl, h1, hlc, hcm⟩ := w0
  by_cases big : 1048576 < hs0.length
  · have hm2 : hs0.length ≤ 9223372036854775807 := by unfold maxLen at hcm; omega
    go_enter Try.func4, Try.ntmps4
    go_wp2_with fail
    refine (lszH_no a0 hs0.length cap0 _ big hm2).mono ?_
    rintro e w' ⟨rfl, rfl⟩
    go_wp2_with fail
    go_ret
    exact ⟨rfl, Below.refl _ _⟩
  have n1 : hs0.length ≤ 1048576 := by omega
  have B0 := Below.refl w.heap.size w
  obtain ⟨x, hx⟩ : ∃ x, x = (shV hs0 a1).1 := ⟨_, rfl⟩
  obtain ⟨y, hy⟩ : ∃ y, y = (shV hs0 a1).2 := ⟨_, rfl⟩
  have HX := Lib.hid hx
  have HY := Lib.hid hy
  clear hx hy
  go_enter Try.func4, Try.ntmps4
  go_wp2_with fail
  refine (lszH a0 hs0.length cap0 _ n1).mono ?_
  rintro e w' ⟨rfl, rfl⟩
  go_wp2_with fail
  refine (ltoH a0 cap0 hs0 _ (hs_below h1 B0) n1).mono ?_
  rintro e u1 ⟨g1, rfl, l1, R1, C1⟩
  have B1 := bel_tr B0 C1
  go_wp2_with fail
  refine (sShareOf _ _ hs0 a1 _ R1.hs n1).mono ?_
  rintro e u2 ⟨rfl, C2⟩
  rw [← HX.out, ← HY.out]
  have B2 := bel_tr B1 C2
  go_wp2_with fail
  have B2' := B2.alloc B2.size (.cells #[.int .i64 x, .int .i64 y] 30)
  have K2 := Blk.new u2 30 #[.int .i64 x, .int .i64 y]
  refine (ltoH a0 cap0 hs0 _ (hs_below h1 B2') n1).mono ?_
  rintro e u3 ⟨g3, rfl, l3, R3, C3⟩
  have B3 := bel_tr B2' C3
  have K3 := K2.next C3
  go_wp2_with fail
  refine (iShareOf _ _ hs0 a1 _ R3.hs n1).mono ?_
  rintro e u4 ⟨rfl, C4⟩
  rw [← HX.out, ← HY.out]
  have B4 := bel_tr B3 C4
  have K4 := K3.next C4
  obtain ⟨t0, t1, t2, t3, t4⟩ := blk_two K4
  clear K2 K3 K4
  go_wp2_with fail
  refine (leqFrac x y _).mono ?_
  rintro e u5 ⟨rfl, C5⟩
  have B4' := B4.alloc B4.size (.cells #[.int .i64 x, .int .i64 y] 30)
  have B5 := bel_tr B4' C5
  go_wp2_with fail
  refine (ltoH a0 cap0 hs0 _ (hs_below h1 B5) n1).mono ?_
  rintro e u6 ⟨g6, rfl, l6, R6, C6⟩
  have B6 := bel_tr B5 C6
  go_wp2_with fail
  refine (leqH _ _ _ _ hs0 _ (hs_below (hs_below (hs_below (hs_below R3.hs C4) ((Below.refl _ _).alloc (Nat.le_refl _) _)) C5) C6) R6.hs n1).mono ?_
  rintro e u7 ⟨rfl, C7⟩
  go_wp2_with fail
  go_ret
  exact ⟨rfl, bel_tr B6 C7⟩

set_option maxRecDepth 100000 in
theorem lifted (os : Os) (started : os.Started) (H : Type) (enc : TypeId × Value → H) :
    ReturnsInHanded {} Try.checked os 4 .any (Rows.fnExactShareOfSpec.pre6 enc Try.prog Try.f4 Rows.fnExactShareOfRow.domain false) (Rows.fnExactShareOfSpec.post enc Try.prog Try.f4 false true false false) := by
  refine returnsInHanded_of_change (C := Try.checked) own started (by kernel_rfl) Try.func4
    (ChangeSpec.witness6 (enc := enc) (C := Try.checked) false ⟨#[], #[.slice none 0 0, .int .i64 0], []⟩ 8 (by kernel_rfl) (by kernel_rfl) (by kernel_rfl) (by kernel_rfl)) ?_
  intro W base args ds gs before hval0 hW hcnd _
  have hval : ∀ (j : Nat) t v, Try.f4.params[j]? = some t → args[j]? = some v → Value.okWide Try.prog W .any base t v := hval0
  have hW' := hW
  obtain ⟨p, q, hA0, hV, rfl, hfz, hnd⟩ := hW
  have hA : DataW.TrodAll enc Try.prog W 0 (fun _ => true) true Try.f4.params.toList args.toList ds p := hA0
  rw [Try.params4] at hA hval
  obtain ⟨v0, vs0, e0, es0, p0, q0, hargs, rfl, rfl, h0, r0⟩ := trodAll_cons hA
  obtain ⟨v1, vs1, e1, es1, p1, q1, rfl, rfl, rfl, h1, r1⟩ := trodAll_cons r0
  obtain ⟨rfl, rfl, rfl⟩ := trodAll_nil r1
  obtain rfl : args = #[v0, v1] := by cases args; simp_all
  obtain ⟨rfl, rfl⟩ := trodVars_none hV
  have k0 := h0
  have lt0 : ∀ x ∈ p0, x.block < W.heap.size := by obtain ⟨m, hm⟩ := k0; exact DataW.trod_lt m _ _ _ hm
  obtain ⟨a0, len0, cap0, rfl⟩ := okWide_slice Try.underlying22 (hval 0 22 v0 rfl rfl)
  obtain ⟨hs0, w0⟩ : ∃ hs, HoldsIn W a0 len0 cap0 hs := by
    obtain ⟨fuel, hf⟩ := h0
    exact open_holds hf
  have k1 := h1
  have lt1 : ∀ x ∈ p1, x.block < W.heap.size := by obtain ⟨m, hm⟩ := k1; exact DataW.trod_lt m _ _ _ hm
  obtain ⟨a1, rfl, _, _, w1⟩ := open_int Try.underlying3 (hval 1 3 v1 rfl rfl) h1
  clear hA0 hval0
  refine (walk a0 len0 cap0 hs0 a1 W w0 w1).mono fun e W' ⟨he, bel⟩ => ?_
  subst he
  exact ⟨_, rfl, _, _, _, [], _, [], hW', trodAll_mk1 (shut_bool Try.underlying4 _), (trodAll_cons_mk (Below.trod laidOut (by kernel_rfl) (of_decide_eq_true (by kernel_rfl)) k0 bel lt0) (trodAll_cons_mk (Below.trod laidOut (by kernel_rfl) (of_decide_eq_true (by kernel_rfl)) k1 bel lt1) trodAll_mk0)), rfl, bel.frame _, fun h => by cases h⟩

theorem over : Rows.fnExactShareOfRow.holds Try.pinned (OpenSpec.ofChange Rows.fnExactShareOfSpec) :=
  OpenClaim.holds_of_wide 4 Try.f4 rfl rfl rfl rfl rfl rfl rfl ⟨rfl, rfl, rfl, rfl, rfl⟩ rfl rfl rfl rfl rfl (by kernel_rfl) Try.func4 (by kernel_rfl)
    (of_decide_eq_true (by kernel_rfl)) (by unfold Func.isWrapper; first | (rw [if_pos (by decide +kernel)]; kernel_rfl) | (rw [if_neg (by decide +kernel)]; exact ⟨rfl, rfl⟩))
    (fun os started H enc _ => lifted os started H enc)

end Go.Proofs.Ytghfoceceomicaa.fnExactShareOf
namespace Go.Proofs.Ytghfoceceomicaa
/-- the statement -/
theorem fnExactShareOf_holds : Rows.FnExactShareOfSaid := fnExactShareOf.over
end Go.Proofs.Ytghfoceceomicaa
