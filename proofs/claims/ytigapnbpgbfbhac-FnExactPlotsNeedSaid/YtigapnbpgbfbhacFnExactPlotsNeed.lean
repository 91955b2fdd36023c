/- For every input the law answers true, and its arguments read afterwards as before: impl.PlotsNeed answers as its model. No condition. -/
import Derived.Test.YtigapnbpgbfbhacRows
import Derived.Test.YtigapnbpgbfbhacLawPl
import Derived.Test.YtigapnbpgbfbhacPloT
import Derived.Test.YtigapnbpgbfbhacGrA
import Derived.Test.YtigapnbpgbfbhacMarkS
import Derived.WalkKit
import Derived.ProofKit
import Derived.OpenShut
import Derived.ShutString
import Derived.ChangeOld
import Derived.Below
import Derived.Lib.SmallJoins
namespace Go.Proofs.Ytigapnbpgbfbhac.fnExactPlotsNeed
open Go.ChangeShapes Go.WideShapes Go.ChangeAt Go.RowKit Go.Joins
open Go.ChangeMaps (open_string shut_string)
set_option linter.unusedVariables false
set_option linter.unusedSimpArgs false

theorem own : ownKnob Try.prog.godebug = none := by kernel_rfl
theorem laidOut : laidOutB Try.prog = true := by kernel_rfl

set_option maxRecDepth 100000 in
set_option maxHeartbeats 6000000 in
theorem walk (a0 : Option Addr) (len0 cap0 : Nat) (x0 : List Pl) (a1 : Option Addr) (len1 cap1 : Nat) (z1 : List Int) (w : World) (w0 : PlIn w a0 len0 cap0 x0) (w1 : IsRow .i64 w a1 len1 cap1 z1) :
    Calls Try.prog 6 #[.slice a0 len0 cap0, .slice a1 len1 cap1] w fun e w' => e = .returned (.bool true) ∧ Below w.heap.size w w' := by
  obtain ⟨rfl, h1, hlc, hcm⟩ := w0
  obtain ⟨zs, rfl, hz0⟩ := row_is w1
  clear w1
  by_cases bigz : (1048576 : Int) < (zs.length : Int)
  · go_enter Try.func6, Try.ntmps6
    go_wp2_with fail
    go_ret
    exact ⟨rfl, by go_grown⟩
  have nz : zs.length ≤ 1048576 := by omega
  by_cases big : 1048576 < x0.length
  · have hm2 : x0.length ≤ 9223372036854775807 := by unfold maxLen at hcm; omega
    go_enter Try.func6, Try.ntmps6
    go_wp2_with fail
    refine (lszPl_no a0 x0.length cap0 _ big hm2).mono ?_
    rintro e w' ⟨rfl, rfl⟩
    go_wp2_with fail
    go_ret
    exact ⟨rfl, by go_grown⟩
  have n1 : x0.length ≤ 1048576 := by omega
  have B := Below.refl w.heap.size w
  obtain ⟨V, hV⟩ : ∃ R, pnN x0 zs = R := ⟨_, rfl⟩
  obtain ⟨Y, hY⟩ : ∃ R, pnY x0 zs = R := ⟨_, rfl⟩
  have CS : ∀ (A : Option Addr) (W : World) (A2 : Option Addr), IsPl W A x0 → IsInts W A2 zs → Calls Try.prog 25 #[.slice A x0.length x0.length, .slice A2 zs.length zs.length] W fun e w' => e = .returned (.tuple #[.int .i64 V, .int .i64 Y]) ∧ Below W.heap.size W w' := fun A W A2 hW hI => by
    rw [← hV, ← hY]; exact sPN A A2 _ _ x0 zs W hW hI n1 nz (Nat.le_refl _)
  have CI : ∀ (A : Option Addr) (W : World) (A2 : Option Addr), IsPl W A x0 → IsInts W A2 zs → Calls Try.prog 27 #[.slice A x0.length x0.length, .slice A2 zs.length zs.length] W fun e w' => e = .returned (.tuple #[.int .i64 V, .int .i64 Y]) ∧ Below W.heap.size W w' := fun A W A2 hW hI => by
    rw [← hV, ← hY]; exact iPN A A2 _ _ x0 zs W hW hI n1 nz (Nat.le_refl _)
  clear hV hY
  go_enter Try.func6, Try.ntmps6
  go_wp2_with fail
  refine (lszPl a0 x0.length cap0 _ n1).mono ?_
  rintro e w' ⟨rfl, rfl⟩
  go_wp2_with fail
  refine (ltoPl a0 cap0 x0 _ (pl_below h1 B) n1).mono ?_
  rintro e u2 ⟨g1, rfl, lg1, R1, C⟩
  have wg1 : w.heap.size ≤ g1 := Nat.le_trans B.size lg1
  replace B := bel_tr B C
  clear C
  go_wp2_with fail
  refine (ltoIntS a1 cap1 zs _ (ints_below hz0 B) nz).mono ?_
  rintro e u3 ⟨p1, rfl, lp1, T1, C⟩
  have wp1 : w.heap.size ≤ p1 := Nat.le_trans B.size lp1
  replace B := bel_tr B C
  replace R1 := R1.next C
  clear C
  go_wp2_with fail
  refine (CS _ _ _ R1.pl (row_ints T1)).mono ?_
  rintro e u4 ⟨rfl, C⟩
  replace B := bel_tr B C
  clear R1 T1 C
  go_wp2_with fail
  refine (ltoPl a0 cap0 x0 _ (pl_below h1 B) n1).mono ?_
  rintro e u5 ⟨g3, rfl, lg3, R3, C⟩
  have wg3 : w.heap.size ≤ g3 := Nat.le_trans B.size lg3
  replace B := bel_tr B C
  clear C
  go_wp2_with fail
  refine (ltoIntS a1 cap1 zs _ (ints_below hz0 B) nz).mono ?_
  rintro e u6 ⟨p4, rfl, lp4, T4, C⟩
  have wp4 : w.heap.size ≤ p4 := Nat.le_trans B.size lp4
  replace B := bel_tr B C
  replace R3 := R3.next C
  clear C
  go_wp2_with fail
  refine (CI _ _ _ R3.pl (row_ints T4)).mono ?_
  rintro e u7 ⟨rfl, C⟩
  replace B := bel_tr B C
  replace R3 := R3.next C
  replace T4 := row_keep T4 C
  clear C
  go_wp2_with fail
  refine (ltoPl a0 cap0 x0 _ (pl_below h1 B) n1).mono ?_
  rintro e u8 ⟨g6, rfl, lg6, R6, C⟩
  have wg6 : w.heap.size ≤ g6 := Nat.le_trans B.size lg6
  replace B := bel_tr B C
  replace R3 := R3.next C
  replace T4 := row_keep T4 C
  clear C
  go_wp2_with fail
  refine (leqPl _ _ _ _ x0 _ R3.pl R6.pl n1).mono ?_
  rintro e u9 ⟨rfl, C⟩
  replace B := bel_tr B C
  replace R3 := R3.next C
  replace T4 := row_keep T4 C
  replace R6 := R6.next C
  clear C
  go_wp2_with fail
  clear R6
  refine (ltoIntS a1 cap1 zs _ (ints_below hz0 B) nz).mono ?_
  rintro e u10 ⟨p7, rfl, lp7, T7, C⟩
  have wp7 : w.heap.size ≤ p7 := Nat.le_trans B.size lp7
  replace B := bel_tr B C
  replace R3 := R3.next C
  replace T4 := row_keep T4 C
  clear C
  go_wp2_with fail
  refine (leqIntS _ _ _ _ zs _ (row_ints T4) (row_ints T7) nz).mono ?_
  rintro e u11 ⟨rfl, C⟩
  replace B := bel_tr B C
  replace R3 := R3.next C
  replace T4 := row_keep T4 C
  replace T7 := row_keep T7 C
  clear C
  go_wp2_with fail
  go_ret
  exact ⟨rfl, B⟩

set_option maxRecDepth 100000 in
theorem lifted (os : Os) (started : os.Started) (H : Type) (enc : TypeId × Value → H) :
    ReturnsInHanded {} Try.checked os 6 .any (Rows.fnExactPlotsNeedSpec.pre6 enc Try.prog Try.f6 Rows.fnExactPlotsNeedRow.domain false) (Rows.fnExactPlotsNeedSpec.post enc Try.prog Try.f6 false true false false) := by
  refine returnsInHanded_of_change (C := Try.checked) own started (by kernel_rfl) Try.func6
    (ChangeSpec.witness6 (enc := enc) (C := Try.checked) false ⟨#[], #[.slice none 0 0, .slice none 0 0], []⟩ 8 (by kernel_rfl) (by kernel_rfl) (by kernel_rfl) (by kernel_rfl)) ?_
  intro W base args ds gs before hval0 hW hcnd _
  have hval : ∀ (j : Nat) t v, Try.f6.params[j]? = some t → args[j]? = some v → Value.okWide Try.prog W .any base t v := hval0
  have hW' := hW
  obtain ⟨p, q, hA0, hV, rfl, hfz, hnd⟩ := hW
  have hA : DataW.TrodAll enc Try.prog W 0 (fun _ => true) true Try.f6.params.toList args.toList ds p := hA0
  rw [Try.params6] at hA hval
  obtain ⟨v0, vs0, e0, es0, p0, q0, hargs, rfl, rfl, h0, r0⟩ := trodAll_cons hA
  obtain ⟨v1, vs1, e1, es1, p1, q1, rfl, rfl, rfl, h1, r1⟩ := trodAll_cons r0
  obtain ⟨rfl, rfl, rfl⟩ := trodAll_nil r1
  obtain rfl : args = #[v0, v1] := by cases args; simp_all
  obtain ⟨rfl, rfl⟩ := trodVars_none hV
  have k0 := h0
  have lt0 : ∀ x ∈ p0, x.block < W.heap.size := by obtain ⟨m, hm⟩ := k0; exact DataW.trod_lt m _ _ _ hm
  obtain ⟨a0, len0, cap0, rfl⟩ := okWide_slice Try.underlying22 (hval 0 22 v0 rfl rfl)
  obtain ⟨x0, w0⟩ : ∃ xs, PlIn W a0 len0 cap0 xs := by
    obtain ⟨fuel, hf⟩ := h0
    exact open_pls hf
  have k1 := h1
  have lt1 : ∀ x ∈ p1, x.block < W.heap.size := by obtain ⟨m, hm⟩ := k1; exact DataW.trod_lt m _ _ _ hm
  obtain ⟨a1, len1, cap1, rfl⟩ := okWide_slice Try.underlying31 (hval 1 31 v1 rfl rfl)
  obtain ⟨z1, w1⟩ : ∃ zs, IsRow .i64 W a1 len1 cap1 zs := by
    obtain ⟨fuel, hf⟩ := h1
    rcases open_ints Try.underlying31 Try.underlying3 (by kernel_rfl) hf with ⟨hcs, _⟩ | ⟨x, l, c, zs, hcs, _, hl, hm, hz, _, hcell, hwz⟩
    · simp [Value.cells] at hcs
      obtain ⟨rfl, rfl, rfl⟩ := hcs
      exact ⟨[], .inl ⟨rfl, rfl, rfl, rfl⟩⟩
    · simp [Value.cells] at hcs
      obtain ⟨rfl, rfl, rfl⟩ := hcs
      exact ⟨zs, .inr ⟨_, rfl, hl, hm, by simpa using hz, hcell, hwz⟩⟩
  clear hA0 hval0
  refine (walk a0 len0 cap0 x0 a1 len1 cap1 z1 W w0 w1).mono fun e W' ⟨he, bel⟩ => ?_
  subst he
  exact ⟨_, rfl, _, _, _, [], _, [], hW', trodAll_mk1 (shut_bool Try.underlying4 _), (trodAll_cons_mk (Below.trod laidOut (by kernel_rfl) (of_decide_eq_true (by kernel_rfl)) k0 bel lt0) (trodAll_cons_mk (Below.trod laidOut (by kernel_rfl) (of_decide_eq_true (by kernel_rfl)) k1 bel lt1) trodAll_mk0)), rfl, bel.frame _, fun h => by cases h⟩

theorem over : Rows.fnExactPlotsNeedRow.holds Try.pinned (OpenSpec.ofChange Rows.fnExactPlotsNeedSpec) :=
  OpenClaim.holds_of_wide 6 Try.f6 rfl rfl rfl rfl rfl rfl rfl ⟨rfl, rfl, rfl, rfl, rfl⟩ rfl rfl rfl rfl rfl (by kernel_rfl) Try.func6 (by kernel_rfl)
    (of_decide_eq_true (by kernel_rfl)) (by unfold Func.isWrapper; first | (rw [if_pos (by decide +kernel)]; kernel_rfl) | (rw [if_neg (by decide +kernel)]; exact ⟨rfl, rfl⟩))
    (fun os started H enc _ => lifted os started H enc)

end Go.Proofs.Ytigapnbpgbfbhac.fnExactPlotsNeed
namespace Go.Proofs.Ytigapnbpgbfbhac
/-- the statement -/
theorem fnExactPlotsNeed_holds : Rows.FnExactPlotsNeedSaid := fnExactPlotsNeed.over
end Go.Proofs.Ytigapnbpgbfbhac
