/- For every input the law answers true, and its arguments read afterwards as before: impl.RankOf answers as its model. No condition. -/
import Derived.Test.YtclpbbhhaclgbaaRows
import Derived.Test.YtclpbbhhaclgbaaRowSS
import Derived.Test.YtclpbbhhaclgbaaRankI
import Derived.WalkKit
import Derived.ProofKit
import Derived.OpenShut
import Derived.ShutString
import Derived.ChangeOld
import Derived.Below
import Derived.Lib.SmallJoins
namespace Go.Proofs.Ytclpbbhhaclgbaa.fnExactRankOf
open Go.ChangeShapes Go.WideShapes Go.ChangeAt Go.RowKit Go.Joins
open Go.ChangeMaps (open_string shut_string)
set_option linter.unusedVariables false
set_option linter.unusedSimpArgs false

theorem own : ownKnob Try.prog.godebug = none := by kernel_rfl
theorem laidOut : laidOutB Try.prog = true := by kernel_rfl

set_option maxRecDepth 100000 in
set_option maxHeartbeats 4000000 in
theorem walk (a0 : Option Addr) (len0 cap0 : Nat) (rs0 : List (List Int)) (a1 : Int) (a2 : Int) (w : World) (w0 : RowsIn w a0 len0 cap0 rs0) (w1 : (Lit.int .i64 a1).wf = true) (w2 : (Lit.int .i64 a2).wf = true) :
    Calls Try.prog 5 #[.slice a0 len0 cap0, .int .i64 a1, .int .i64 a2] w fun e w' => e = .returned (.bool true) ∧ Below w.heap.size w w' := by
  obtain ⟨rfl, h1, hlc, hcm, hrm⟩ := w0
  have m0 : rs0.length ≤ 9223372036854775807 := by unfold maxLen at hcm; omega
  have m1 : ∀ r ∈ rs0, r.length ≤ 9223372036854775807 := fun r hr => by have := hrm r hr; unfold maxLen at this; omega
  have B := Below.refl w.heap.size w
  have CZ := lszSS a0 cap0 rs0 1048576 w h1 (by omega) (by omega) m0 m1
  by_cases big : szSS 1048576 rs0 < 0
  · have e0 : decide (szSS 1048576 rs0 < 0) = true := decide_eq_true big
    clear big hrm m1
    generalize szSS 1048576 rs0 = z at *
    go_enter Try.func5, Try.ntmps5
    go_wp2_with fail
    refine CZ.mono ?_
    rintro e w' ⟨rfl, rfl⟩
    go_wp2_with fail
    go_ret
    exact ⟨rfl, B⟩
  have e0 : decide (szSS 1048576 rs0 < 0) = false := decide_eq_false big
  obtain ⟨n1, n2⟩ := szSS_pos big (by omega)
  have n1 : rs0.length ≤ 1048576 := by omega
  have HN : Hid (∀ r ∈ rs0, r.length ≤ 1048576) := fun r hr => by have := n2 r hr; omega
  obtain ⟨V, hV⟩ : ∃ V, rkV rs0 a1 a2 = V := ⟨_, rfl⟩
  have CS : Hid (∀ (A : Option Addr) (c : Nat) (W : World), IsRows W A rs0 → Calls Try.prog 22 #[.slice A rs0.length c, .int .i64 a1, .int .i64 a2] W fun e w' => e = .returned (.int .i64 V) ∧ Below W.heap.size W w') := fun A c W hW => by
    rw [← hV]; exact sRank A c rs0 a1 a2 W hW n1
  have CI : Hid (∀ (A : Option Addr) (c : Nat) (W : World), IsRows W A rs0 → Calls Try.prog 23 #[.slice A rs0.length c, .int .i64 a1, .int .i64 a2] W fun e w' => e = .returned (.int .i64 V) ∧ W = w') := fun A c W hW => by
    rw [← hV]; exact iRank A c rs0 a1 a2 W hW n1
  clear hV big hrm m1 n2
  generalize szSS 1048576 rs0 = z at *
  go_enter Try.func5, Try.ntmps5
  go_wp2_with fail
  refine CZ.mono ?_
  rintro e w' ⟨rfl, rfl⟩
  clear CZ
  go_wp2_with fail
  refine (ltoSS a0 cap0 rs0 _ (rows_below h1 B) n1 HN.out).mono ?_
  rintro e u1 ⟨g1, G1, rfl, lg1, R1, C⟩
  replace B := bel_tr B C
  replace R1 := R1.rows
  clear C
  go_wp2_with fail
  refine (CS.out _ _ _ R1).mono ?_
  rintro e u2 ⟨rfl, C⟩
  replace B := bel_tr B C
  clear C R1
  go_wp2_with fail
  refine (ltoSS a0 cap0 rs0 _ (rows_below h1 B) n1 HN.out).mono ?_
  rintro e u3 ⟨g3, G3, rfl, lg3, R3, C⟩
  replace B := bel_tr B C
  replace R3 := R3.rows
  clear C
  go_wp2_with fail
  refine (CI.out _ _ _ R3).mono ?_
  rintro e u4 ⟨rfl, rfl⟩
  go_wp2_with fail
  refine (ltoSS a0 cap0 rs0 _ (rows_below h1 B) n1 HN.out).mono ?_
  rintro e u5 ⟨g5, G5, rfl, lg5, R5, C⟩
  replace B := bel_tr B C
  replace R3 := rows_below R3 C
  replace R5 := R5.rows
  clear C
  go_wp2_with fail
  refine (leqSS _ _ _ _ rs0 _ R3 R5 n1 HN.out).mono ?_
  rintro e u6 ⟨rfl, C⟩
  replace B := bel_tr B C
  clear C
  go_wp2_with fail
  go_ret
  exact ⟨rfl, B⟩

set_option maxRecDepth 100000 in
theorem lifted (os : Os) (started : os.Started) (H : Type) (enc : TypeId × Value → H) :
    ReturnsInHanded {} Try.checked os 5 .any (Rows.fnExactRankOfSpec.pre6 enc Try.prog Try.f5 Rows.fnExactRankOfRow.domain false) (Rows.fnExactRankOfSpec.post enc Try.prog Try.f5 false true false false) := by
  refine returnsInHanded_of_change (C := Try.checked) own started (by kernel_rfl) Try.func5
    (ChangeSpec.witness6 (enc := enc) (C := Try.checked) false ⟨#[], #[.slice none 0 0, .int .i64 0, .int .i64 0], []⟩ 8 (by kernel_rfl) (by kernel_rfl) (by kernel_rfl) (by kernel_rfl)) ?_
  intro W base args ds gs before hval0 hW hcnd _
  have hval : ∀ (j : Nat) t v, Try.f5.params[j]? = some t → args[j]? = some v → Value.okWide Try.prog W .any base t v := hval0
  have hW' := hW
  obtain ⟨p, q, hA0, hV, rfl, hfz, hnd⟩ := hW
  have hA : DataW.TrodAll enc Try.prog W 0 (fun _ => true) true Try.f5.params.toList args.toList ds p := hA0
  rw [Try.params5] at hA hval
  obtain ⟨v0, vs0, e0, es0, p0, q0, hargs, rfl, rfl, h0, r0⟩ := trodAll_cons hA
  obtain ⟨v1, vs1, e1, es1, p1, q1, rfl, rfl, rfl, h1, r1⟩ := trodAll_cons r0
  obtain ⟨v2, vs2, e2, es2, p2, q2, rfl, rfl, rfl, h2, r2⟩ := trodAll_cons r1
  obtain ⟨rfl, rfl, rfl⟩ := trodAll_nil r2
  obtain rfl : args = #[v0, v1, v2] := by cases args; simp_all
  obtain ⟨rfl, rfl⟩ := trodVars_none hV
  have k0 := h0
  have lt0 : ∀ x ∈ p0, x.block < W.heap.size := by obtain ⟨m, hm⟩ := k0; exact DataW.trod_lt m _ _ _ hm
  obtain ⟨a0, len0, cap0, rfl⟩ := okWide_slice Try.underlying22 (hval 0 22 v0 rfl rfl)
  obtain ⟨rs0, w0⟩ : ∃ rs, RowsIn W a0 len0 cap0 rs := by
    obtain ⟨fuel, hf⟩ := h0
    exact open_rows hf
  have k1 := h1
  have lt1 : ∀ x ∈ p1, x.block < W.heap.size := by obtain ⟨m, hm⟩ := k1; exact DataW.trod_lt m _ _ _ hm
  obtain ⟨a1, rfl, _, _, w1⟩ := open_int Try.underlying3 (hval 1 3 v1 rfl rfl) h1
  have k2 := h2
  have lt2 : ∀ x ∈ p2, x.block < W.heap.size := by obtain ⟨m, hm⟩ := k2; exact DataW.trod_lt m _ _ _ hm
  obtain ⟨a2, rfl, _, _, w2⟩ := open_int Try.underlying3 (hval 2 3 v2 rfl rfl) h2
  clear hA0 hval0
  refine (walk a0 len0 cap0 rs0 a1 a2 W w0 w1 w2).mono fun e W' ⟨he, bel⟩ => ?_
  subst he
  exact ⟨_, rfl, _, _, _, [], _, [], hW', trodAll_mk1 (shut_bool Try.underlying4 _), (trodAll_cons_mk (Below.trod laidOut (by kernel_rfl) (of_decide_eq_true (by kernel_rfl)) k0 bel lt0) (trodAll_cons_mk (Below.trod laidOut (by kernel_rfl) (of_decide_eq_true (by kernel_rfl)) k1 bel lt1) (trodAll_cons_mk (Below.trod laidOut (by kernel_rfl) (of_decide_eq_true (by kernel_rfl)) k2 bel lt2) trodAll_mk0))), rfl, bel.frame _, fun h => by cases h⟩

theorem over : Rows.fnExactRankOfRow.holds Try.pinned (OpenSpec.ofChange Rows.fnExactRankOfSpec) :=
  OpenClaim.holds_of_wide 5 Try.f5 rfl rfl rfl rfl rfl rfl rfl ⟨rfl, rfl, rfl, rfl, rfl⟩ rfl rfl rfl rfl rfl (by kernel_rfl) Try.func5 (by kernel_rfl)
    (of_decide_eq_true (by kernel_rfl)) (by unfold Func.isWrapper; first | (rw [if_pos (by decide +kernel)]; kernel_rfl) | (rw [if_neg (by decide +kernel)]; exact ⟨rfl, rfl⟩))
    (fun os started H enc _ => lifted os started H enc)

end Go.Proofs.Ytclpbbhhaclgbaa.fnExactRankOf
namespace Go.Proofs.Ytclpbbhhaclgbaa
/-- the statement -/
theorem fnExactRankOf_holds : Rows.FnExactRankOfSaid := fnExactRankOf.over
end Go.Proofs.Ytclpbbhhaclgbaa
