/- For every input the law answers true, and its arguments read afterwards as before: impl.DistanceOf answers as its model. No condition. -/
import Derived.Test.YtlellobigckolaaRows
import Derived.Test.YtlellobigckolaaDist
import Derived.WalkKit
import Derived.ProofKit
import Derived.OpenShut
import Derived.ShutString
import Derived.ChangeOld
import Derived.Below
import Derived.Lib.SmallJoins
namespace Go.Proofs.Ytlellobigckolaa.fnExactDistanceOf
open Go.ChangeShapes Go.WideShapes Go.ChangeAt Go.RowKit Go.Joins
open Go.ChangeMaps (open_string shut_string)
set_option linter.unusedVariables false

theorem own : ownKnob Try.prog.godebug = none := by kernel_rfl
theorem laidOut : laidOutB Try.prog = true := by kernel_rfl

set_option maxHeartbeats 1000000 in
theorem walk (a0 : Option Addr) (len0 cap0 : Nat) (z0 : List Int) (a1 : Option Addr) (len1 cap1 : Nat) (z1 : List Int) (w : World) (w0 : IsRow .i64 w a0 len0 cap0 z0) (w1 : IsRow .i64 w a1 len1 cap1 z1) :
    Calls Try.prog 8 #[.slice a0 len0 cap0, .slice a1 len1 cap1] w fun e w' => e = .returned (.bool true) ∧ Below w.heap.size w w' := by
  obtain ⟨zs0, rfl, h0⟩ := row_is w0
  obtain ⟨zs1, rfl, h1⟩ := row_is w1
  by_cases big : (1048576 : Int) < (zs0.length : Int)
  · go_enter Try.func8, Try.ntmps8
    go_wp2
    go_ret
    exact ⟨rfl, Below.refl _ _⟩
  by_cases big1 : (1048576 : Int) < (zs1.length : Int)
  · go_enter Try.func8, Try.ntmps8
    go_wp2
    go_ret
    exact ⟨rfl, Below.refl _ _⟩
  · have n0 : zs0.length ≤ 1048576 := by omega
    have n1 : zs1.length ≤ 1048576 := by omega
    have B0 := Below.refl w.heap.size w
    go_enter Try.func8, Try.ntmps8
    go_wp2_with fail
    refine (ltoIntS a0 cap0 zs0 _ (ints_below h0 B0) n0).mono ?_
    rintro e u1 ⟨g1, rfl, _, R1, C1⟩
    have B1 := bel_tr B0 C1
    go_wp2_with fail
    refine (ltoIntS a1 cap1 zs1 _ (ints_below h1 B1) n1).mono ?_
    rintro e u2 ⟨g2, rfl, _, R2, C2⟩
    have B2 := bel_tr B1 C2
    go_wp2_with fail
    refine (sdistOf _ _ _ _ zs0 zs1 _ (row_ints (row_keep R1 C2)) (row_ints R2) n0 n1).mono ?_
    rintro e u3 ⟨rfl, C3⟩
    have B3 := bel_tr B2 C3
    go_wp2_with fail
    refine (ltoIntS a0 cap0 zs0 _ (ints_below h0 B3) n0).mono ?_
    rintro e u4 ⟨g4, rfl, _, R4, C4⟩
    have B4 := bel_tr B3 C4
    go_wp2_with fail
    refine (ltoIntS a1 cap1 zs1 _ (ints_below h1 B4) n1).mono ?_
    rintro e u5 ⟨g5, rfl, _, R5, C5⟩
    have B5 := bel_tr B4 C5
    go_wp2_with fail
    refine (idist _ _ _ _ zs0 zs1 _ (row_ints (row_keep R4 C5)) (row_ints R5) n0 n1).mono ?_
    rintro e w' ⟨rfl, rfl⟩
    go_wp2_with fail
    refine (ltoIntS a0 cap0 zs0 _ (ints_below h0 B5) n0).mono ?_
    rintro e u6 ⟨g6, rfl, _, R6, C6⟩
    have B6 := bel_tr B5 C6
    go_wp2_with fail
    refine (leqIntS _ _ _ _ zs0 _ (row_ints (row_keep (row_keep R4 C5) C6)) (row_ints R6) n0).mono ?_
    rintro e u7 ⟨rfl, C7⟩
    have B7 := bel_tr B6 C7
    go_wp2_with fail
    refine (ltoIntS a1 cap1 zs1 _ (ints_below h1 B7) n1).mono ?_
    rintro e u8 ⟨g8, rfl, _, R8, C8⟩
    have B8 := bel_tr B7 C8
    go_wp2_with fail
    refine (leqIntS _ _ _ _ zs1 _ (row_ints (row_keep (row_keep (row_keep R5 C6) C7) C8)) (row_ints R8) n1).mono ?_
    rintro e u9 ⟨rfl, C9⟩
    go_wp2_with fail
    go_ret
    exact ⟨rfl, bel_tr B8 C9⟩

set_option maxRecDepth 100000 in
theorem lifted (os : Os) (started : os.Started) (H : Type) (enc : TypeId × Value → H) :
    ReturnsInHanded {} Try.checked os 8 .any (Rows.fnExactDistanceOfSpec.pre6 enc Try.prog Try.f8 Rows.fnExactDistanceOfRow.domain false) (Rows.fnExactDistanceOfSpec.post enc Try.prog Try.f8 false true false false) := by
  refine returnsInHanded_of_change (C := Try.checked) own started (by kernel_rfl) Try.func8
    (ChangeSpec.witness6 (enc := enc) (C := Try.checked) false ⟨#[], #[.slice none 0 0, .slice none 0 0], []⟩ 8 (by kernel_rfl) (by kernel_rfl) (by kernel_rfl) (by kernel_rfl)) ?_
  intro W base args ds gs before hval0 hW hcnd _
  have hval : ∀ (j : Nat) t v, Try.f8.params[j]? = some t → args[j]? = some v → Value.okWide Try.prog W .any base t v := hval0
  have hW' := hW
  obtain ⟨p, q, hA0, hV, rfl, hfz, hnd⟩ := hW
  have hA : DataW.TrodAll enc Try.prog W 0 (fun _ => true) true Try.f8.params.toList args.toList ds p := hA0
  rw [Try.params8] at hA hval
  obtain ⟨v0, vs0, e0, es0, p0, q0, hargs, rfl, rfl, h0, r0⟩ := trodAll_cons hA
  obtain ⟨v1, vs1, e1, es1, p1, q1, rfl, rfl, rfl, h1, r1⟩ := trodAll_cons r0
  obtain ⟨rfl, rfl, rfl⟩ := trodAll_nil r1
  obtain rfl : args = #[v0, v1] := by cases args; simp_all
  obtain ⟨rfl, rfl⟩ := trodVars_none hV
  have k0 := h0
  have lt0 : ∀ x ∈ p0, x.block < W.heap.size := by obtain ⟨m, hm⟩ := k0; exact DataW.trod_lt m _ _ _ hm
  obtain ⟨a0, len0, cap0, rfl⟩ := okWide_slice Try.underlying22 (hval 0 22 v0 rfl rfl)
  obtain ⟨z0, w0⟩ : ∃ zs, IsRow .i64 W a0 len0 cap0 zs := by
    obtain ⟨fuel, hf⟩ := h0
    rcases open_ints Try.underlying22 Try.underlying3 (by kernel_rfl) hf with ⟨hcs, _⟩ | ⟨x, l, c, zs, hcs, _, hl, hm, hz, _, hcell, hwz⟩
    · simp [Value.cells] at hcs
      obtain ⟨rfl, rfl, rfl⟩ := hcs
      exact ⟨[], .inl ⟨rfl, rfl, rfl, rfl⟩⟩
    · simp [Value.cells] at hcs
      obtain ⟨rfl, rfl, rfl⟩ := hcs
      exact ⟨zs, .inr ⟨_, rfl, hl, hm, by simpa using hz, hcell, hwz⟩⟩
  have k1 := h1
  have lt1 : ∀ x ∈ p1, x.block < W.heap.size := by obtain ⟨m, hm⟩ := k1; exact DataW.trod_lt m _ _ _ hm
  obtain ⟨a1, len1, cap1, rfl⟩ := okWide_slice Try.underlying22 (hval 1 22 v1 rfl rfl)
  obtain ⟨z1, w1⟩ : ∃ zs, IsRow .i64 W a1 len1 cap1 zs := by
    obtain ⟨fuel, hf⟩ := h1
    rcases open_ints Try.underlying22 Try.underlying3 (by kernel_rfl) hf with ⟨hcs, _⟩ | ⟨x, l, c, zs, hcs, _, hl, hm, hz, _, hcell, hwz⟩
    · simp [Value.cells] at hcs
      obtain ⟨rfl, rfl, rfl⟩ := hcs
      exact ⟨[], .inl ⟨rfl, rfl, rfl, rfl⟩⟩
    · simp [Value.cells] at hcs
      obtain ⟨rfl, rfl, rfl⟩ := hcs
      exact ⟨zs, .inr ⟨_, rfl, hl, hm, by simpa using hz, hcell, hwz⟩⟩
  clear hA0 hval0
  refine (walk a0 len0 cap0 z0 a1 len1 cap1 z1 W w0 w1).mono fun e W' ⟨he, bel⟩ => ?_
  subst he
  exact ⟨_, rfl, _, _, _, [], _, [], hW', trodAll_mk1 (shut_bool Try.underlying4 _), (trodAll_cons_mk (Below.trod laidOut (by kernel_rfl) (of_decide_eq_true (by kernel_rfl)) k0 bel lt0) (trodAll_cons_mk (Below.trod laidOut (by kernel_rfl) (of_decide_eq_true (by kernel_rfl)) k1 bel lt1) trodAll_mk0)), rfl, bel.frame _, fun h => by cases h⟩

theorem over : Rows.fnExactDistanceOfRow.holds Try.pinned (OpenSpec.ofChange Rows.fnExactDistanceOfSpec) :=
  OpenClaim.holds_of_wide 8 Try.f8 rfl rfl rfl rfl rfl rfl rfl ⟨rfl, rfl, rfl, rfl, rfl⟩ rfl rfl rfl rfl rfl (by kernel_rfl) Try.func8 (by kernel_rfl)
    (of_decide_eq_true (by kernel_rfl)) (by unfold Func.isWrapper; first | (rw [if_pos (by decide +kernel)]; kernel_rfl) | (rw [if_neg (by decide +kernel)]; exact ⟨rfl, rfl⟩))
    (fun os started H enc _ => lifted os started H enc)

end Go.Proofs.Ytlellobigckolaa.fnExactDistanceOf
namespace Go.Proofs.Ytlellobigckolaa
/-- the statement -/
theorem fnExactDistanceOf_holds : Rows.FnExactDistanceOfSaid := fnExactDistanceOf.over
end Go.Proofs.Ytlellobigckolaa
