/- For every input the law answers true, and its arguments read afterwards as before: impl.SplitByMiddle answers as its model. No condition. -/
import Derived.Test.YtigapnbpgbfbhabRows
import Derived.Test.YtigapnbpgbfbhabGrA
import Derived.Test.YtigapnbpgbfbhabAvgS
import Derived.WalkKit
import Derived.ProofKit
import Derived.OpenShut
import Derived.ShutString
import Derived.ChangeOld
import Derived.Below
import Derived.Lib.SmallJoins
namespace Go.Proofs.Ytigapnbpgbfbhab.fnExactSplitByMiddle
open Go.ChangeShapes Go.WideShapes Go.ChangeAt Go.RowKit Go.Joins
open Go.ChangeMaps (open_string shut_string)
set_option linter.unusedVariables false

theorem own : ownKnob Try.prog.godebug = none := by kernel_rfl
theorem laidOut : laidOutB Try.prog = true := by kernel_rfl

set_option maxHeartbeats 2000000 in
theorem walk (a0 : Int) (a1 : Option Addr) (len1 cap1 : Nat) (z1 : List Int) (w : World) (w0 : (Lit.int .i64 a0).wf = true) (w1 : IsRow .i64 w a1 len1 cap1 z1) :
    Calls Try.prog 13 #[.int .i64 a0, .slice a1 len1 cap1] w fun e w' => e = .returned (.bool true) ∧ Below w.heap.size w w' := by
  obtain ⟨zs, rfl, h1⟩ := row_is w1
  by_cases big : (1048576 : Int) < (zs.length : Int)
  · go_enter Try.func13, Try.ntmps13
    go_wp2
    go_ret
    exact ⟨rfl, Below.refl _ _⟩
  have n1 : zs.length ≤ 1048576 := by omega
  have B0 := Below.refl w.heap.size w
  cases hcs : csB a0 zs with
  | false =>
    have HK := Lib.hid hcs
    clear hcs
    go_enter Try.func13, Try.ntmps13
    go_wp2_with fail
    refine (ltoIntS a1 cap1 zs _ (ints_below h1 B0) n1).mono ?_
    rintro e u1 ⟨g1, rfl, l1, R1, C1⟩
    have B1 := bel_tr B0 C1
    go_wp2_with fail
    refine (smiddle_no a0 _ _ zs _ (row_ints R1) n1 HK.out).mono ?_
    rintro e w' ⟨rfl, rfl⟩
    go_wp2_with fail
    refine (ltoIntS a1 cap1 zs _ (ints_below h1 B1) n1).mono ?_
    rintro e u2 ⟨g2, rfl, l2, R2, C2⟩
    have B2 := bel_tr B1 C2
    go_wp2_with fail
    refine (imiddle_no a0 _ _ zs _ (row_ints R2) n1 HK.out).mono ?_
    rintro e w' ⟨rfl, rfl⟩
    go_wp2_with fail
    refine (leqIntS _ _ _ _ [] _ (.inl rfl) (.inl rfl) (by simp)).mono ?_
    rintro e u3 ⟨rfl, C3⟩
    have B3 := bel_tr B2 C3
    go_wp2_with fail
    refine (ltoIntS a1 cap1 zs _ (ints_below h1 B3) n1).mono ?_
    rintro e u4 ⟨g4, rfl, l4, R4, C4⟩
    have B4 := bel_tr B3 C4
    go_wp2_with fail
    refine (leqIntS _ _ _ _ zs _ (row_ints (row_keep (row_keep R2 C3) C4)) (row_ints R4) n1).mono ?_
    rintro e u5 ⟨rfl, C5⟩
    have B5 := bel_tr B4 C5
    go_wp2_with fail
    refine (lmark g2 _ zs _ (row_keep (row_keep (row_keep R2 C3) C4) C5) n1).mono ?_
    rintro e u6 ⟨rfl, R6, G6⟩
    have hg2 : w.heap.size ≤ g2 := Nat.le_trans B1.size l2
    have B6 := below_grown B5 G6 hg2
    go_wp2_with fail
    refine (leqIntS _ _ _ _ [] _ (.inl rfl) (.inl rfl) (by simp)).mono ?_
    rintro e u7 ⟨rfl, C7⟩
    have B7 := bel_tr B6 C7
    go_wp2_with fail
    refine (lmark_nil _).mono ?_
    rintro e w' ⟨rfl, rfl⟩
    go_wp2_with fail
    refine (lheld_nil _).mono ?_
    rintro e w' ⟨rfl, rfl⟩
    go_wp2_with fail
    refine (ltoIntS a1 cap1 zs _ (ints_below h1 B7) n1).mono ?_
    rintro e u8 ⟨g8, rfl, l8, R8, C8⟩
    have B8 := bel_tr B7 C8
    go_wp2_with fail
    refine (imiddle_no a0 _ _ zs _ (row_ints R8) n1 HK.out).mono ?_
    rintro e w' ⟨rfl, rfl⟩
    go_wp2_with fail
    refine (leqIntS _ _ _ _ [] _ (.inl rfl) (.inl rfl) (by simp)).mono ?_
    rintro e u9 ⟨rfl, C9⟩
    have B9 := bel_tr B8 C9
    go_wp2_with fail
    refine (lheld_nil _).mono ?_
    rintro e w' ⟨rfl, rfl⟩
    go_wp2_with fail
    go_ret
    exact ⟨rfl, B9⟩
  | true =>
    have HK := Lib.hid hcs
    have hq : (sa 2 a0 zs).length = zs.length := sa_len 2 a0 zs
    obtain ⟨q, hqq⟩ : ∃ q, sa 2 a0 zs = q := ⟨_, rfl⟩
    rw [hqq] at hq
    have HQ := Lib.hid hq
    have HE := Lib.hid hqq
    have nq : q.length ≤ 1048576 := by omega
    clear hcs hq hqq
    go_enter Try.func13, Try.ntmps13
    go_wp2_with fail
    refine (ltoIntS a1 cap1 zs _ (ints_below h1 B0) n1).mono ?_
    rintro e u1 ⟨g1, rfl, l1, R1, C1⟩
    have B1 := bel_tr B0 C1
    go_wp2_with fail
    refine (smiddle a0 _ _ zs _ (row_ints R1) n1 HK.out).mono ?_
    rintro e u2 ⟨b, cp, rfl, I2, C2⟩
    rw [HE.out] at I2
    have B2 := bel_tr B1 C2
    go_wp2_with fail
    refine (ltoIntS a1 cap1 zs _ (ints_below h1 B2) n1).mono ?_
    rintro e u3 ⟨g3, rfl, l3, R3, C3⟩
    have B3 := bel_tr B2 C3
    go_wp2_with fail
    refine (imiddle a0 _ _ zs _ (row_ints R3) n1 HK.out).mono ?_
    rintro e u4 ⟨g4, rfl, l4, R4, C4⟩
    rw [HE.out] at R4
    have B4 := bel_tr B3 C4
    have D4 := bel_tr C3 C4
    have lt3 := World.rowIs.lt R3
    have w3 : w.heap.size ≤ g3 := Nat.le_trans B2.size l3
    have w4 : w.heap.size ≤ g4 := Nat.le_trans B3.size l4
    have v4 : u2.heap.size ≤ g4 := Nat.le_trans C3.size l4
    have ne43 : g4 ≠ g3 := by omega
    go_wp2_with fail
    refine (leqN zs.length _ _ _ _ q _ HQ.out (row_ints R4) (ints_below I2 D4) nq).mono ?_
    rintro e u5 ⟨rfl, C5⟩
    have B5 := bel_tr B4 C5
    have D5 := bel_tr D4 C5
    go_wp2_with fail
    refine (ltoIntS a1 cap1 zs _ (ints_below h1 B5) n1).mono ?_
    rintro e u6 ⟨g6, rfl, l6, R6, C6⟩
    have B6 := bel_tr B5 C6
    have D6 := bel_tr D5 C6
    go_wp2_with fail
    refine (leqIntS _ _ _ _ zs _ (row_ints (row_keep (row_keep (row_keep R3 C4) C5) C6)) (row_ints R6) n1).mono ?_
    rintro e u7 ⟨rfl, C7⟩
    have B7 := bel_tr B6 C7
    have D7 := bel_tr D6 C7
    have R47 := row_keep (row_keep (row_keep R4 C5) C6) C7
    have R37 := row_keep (row_keep (row_keep (row_keep R3 C4) C5) C6) C7
    clear R4 R3 R6 R1
    go_wp2_with fail
    refine (lmark g3 _ zs _ R37 n1).mono ?_
    rintro e u8 ⟨rfl, R8, G8⟩
    have B8 := below_grown B7 G8 w3
    have D8 := below_grown D7 G8 l3
    have R48 := row_apart R47 G8 ne43
    clear R37 R47 R8 G8
    go_wp2_with fail
    refine (leqN zs.length _ _ _ _ q _ HQ.out (row_ints R48) (ints_below I2 D8) nq).mono ?_
    rintro e u9 ⟨rfl, C9⟩
    have B9 := bel_tr B8 C9
    have D9 := bel_tr D8 C9
    go_wp2_with fail
    refine (lmarkN zs.length g4 _ q _ HQ.out (row_keep R48 C9) nq).mono ?_
    rintro e u10 ⟨rfl, R10, G10⟩
    have B10 := below_grown B9 G10 w4
    have D10 := below_grown D9 G10 v4
    clear R48 G10 C9
    go_wp2_with fail
    refine (lheld g4 _ zs.length _ R10 n1).mono ?_
    rintro e w' ⟨rfl, rfl⟩
    go_wp2_with fail
    refine (ltoIntS a1 cap1 zs _ (ints_below h1 B10) n1).mono ?_
    rintro e u11 ⟨g11, rfl, l11, R11, C11⟩
    have B11 := bel_tr B10 C11
    have D11 := bel_tr D10 C11
    go_wp2_with fail
    refine (imiddle a0 _ _ zs _ (row_ints R11) n1 HK.out).mono ?_
    rintro e u12 ⟨g12, rfl, l12, R12, C12⟩
    rw [HE.out] at R12
    have B12 := bel_tr B11 C12
    have D12 := bel_tr D11 C12
    go_wp2_with fail
    refine (leqN zs.length _ _ _ _ q _ HQ.out (row_ints R12) (ints_below I2 D12) nq).mono ?_
    rintro e u13 ⟨rfl, C13⟩
    have B13 := bel_tr B12 C13
    go_wp2_with fail
    refine (lheld g4 _ zs.length _ (row_keep (row_keep (row_keep R10 C11) C12) C13) n1).mono ?_
    rintro e w' ⟨rfl, rfl⟩
    go_wp2_with fail
    go_ret
    exact ⟨rfl, B13⟩

set_option maxRecDepth 100000 in
theorem lifted (os : Os) (started : os.Started) (H : Type) (enc : TypeId × Value → H) :
    ReturnsInHanded {} Try.checked os 13 .any (Rows.fnExactSplitByMiddleSpec.pre6 enc Try.prog Try.f13 Rows.fnExactSplitByMiddleRow.domain false) (Rows.fnExactSplitByMiddleSpec.post enc Try.prog Try.f13 false true false false) := by
  refine returnsInHanded_of_change (C := Try.checked) own started (by kernel_rfl) Try.func13
    (ChangeSpec.witness6 (enc := enc) (C := Try.checked) false ⟨#[], #[.int .i64 0, .slice none 0 0], []⟩ 8 (by kernel_rfl) (by kernel_rfl) (by kernel_rfl) (by kernel_rfl)) ?_
  intro W base args ds gs before hval0 hW hcnd _
  have hval : ∀ (j : Nat) t v, Try.f13.params[j]? = some t → args[j]? = some v → Value.okWide Try.prog W .any base t v := hval0
  have hW' := hW
  obtain ⟨p, q, hA0, hV, rfl, hfz, hnd⟩ := hW
  have hA : DataW.TrodAll enc Try.prog W 0 (fun _ => true) true Try.f13.params.toList args.toList ds p := hA0
  rw [Try.params13] at hA hval
  obtain ⟨v0, vs0, e0, es0, p0, q0, hargs, rfl, rfl, h0, r0⟩ := trodAll_cons hA
  obtain ⟨v1, vs1, e1, es1, p1, q1, rfl, rfl, rfl, h1, r1⟩ := trodAll_cons r0
  obtain ⟨rfl, rfl, rfl⟩ := trodAll_nil r1
  obtain rfl : args = #[v0, v1] := by cases args; simp_all
  obtain ⟨rfl, rfl⟩ := trodVars_none hV
  have k0 := h0
  have lt0 : ∀ x ∈ p0, x.block < W.heap.size := by obtain ⟨m, hm⟩ := k0; exact DataW.trod_lt m _ _ _ hm
  obtain ⟨a0, rfl, _, _, w0⟩ := open_int Try.underlying3 (hval 0 3 v0 rfl rfl) h0
  have k1 := h1
  have lt1 : ∀ x ∈ p1, x.block < W.heap.size := by obtain ⟨m, hm⟩ := k1; exact DataW.trod_lt m _ _ _ hm
  obtain ⟨a1, len1, cap1, rfl⟩ := okWide_slice Try.underlying23 (hval 1 23 v1 rfl rfl)
  obtain ⟨z1, w1⟩ : ∃ zs, IsRow .i64 W a1 len1 cap1 zs := by
    obtain ⟨fuel, hf⟩ := h1
    rcases open_ints Try.underlying23 Try.underlying3 (by kernel_rfl) hf with ⟨hcs, _⟩ | ⟨x, l, c, zs, hcs, _, hl, hm, hz, _, hcell, hwz⟩
    · simp [Value.cells] at hcs
      obtain ⟨rfl, rfl, rfl⟩ := hcs
      exact ⟨[], .inl ⟨rfl, rfl, rfl, rfl⟩⟩
    · simp [Value.cells] at hcs
      obtain ⟨rfl, rfl, rfl⟩ := hcs
      exact ⟨zs, .inr ⟨_, rfl, hl, hm, by simpa using hz, hcell, hwz⟩⟩
  clear hA0 hval0
  refine (walk a0 a1 len1 cap1 z1 W w0 w1).mono fun e W' ⟨he, bel⟩ => ?_
  subst he
  exact ⟨_, rfl, _, _, _, [], _, [], hW', trodAll_mk1 (shut_bool Try.underlying4 _), (trodAll_cons_mk (Below.trod laidOut (by kernel_rfl) (of_decide_eq_true (by kernel_rfl)) k0 bel lt0) (trodAll_cons_mk (Below.trod laidOut (by kernel_rfl) (of_decide_eq_true (by kernel_rfl)) k1 bel lt1) trodAll_mk0)), rfl, bel.frame _, fun h => by cases h⟩

theorem over : Rows.fnExactSplitByMiddleRow.holds Try.pinned (OpenSpec.ofChange Rows.fnExactSplitByMiddleSpec) :=
  OpenClaim.holds_of_wide 13 Try.f13 rfl rfl rfl rfl rfl rfl rfl ⟨rfl, rfl, rfl, rfl, rfl⟩ rfl rfl rfl rfl rfl (by kernel_rfl) Try.func13 (by kernel_rfl)
    (of_decide_eq_true (by kernel_rfl)) (by unfold Func.isWrapper; first | (rw [if_pos (by decide +kernel)]; kernel_rfl) | (rw [if_neg (by decide +kernel)]; exact ⟨rfl, rfl⟩))
    (fun os started H enc _ => lifted os started H enc)

end Go.Proofs.Ytigapnbpgbfbhab.fnExactSplitByMiddle
namespace Go.Proofs.Ytigapnbpgbfbhab
/-- the statement -/
theorem fnExactSplitByMiddle_holds : Rows.FnExactSplitByMiddleSaid := fnExactSplitByMiddle.over
end Go.Proofs.Ytigapnbpgbfbhab
