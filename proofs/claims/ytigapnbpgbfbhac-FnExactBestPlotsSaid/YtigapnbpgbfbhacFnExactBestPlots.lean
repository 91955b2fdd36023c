/- For every input the law answers true, and its arguments read afterwards as before: impl.BestPlots answers as its model. No condition. -/
import Derived.Test.YtigapnbpgbfbhacRows
import Derived.Test.YtigapnbpgbfbhacLawPl
import Derived.Test.YtigapnbpgbfbhacPloT
import Derived.Test.YtigapnbpgbfbhacGrA
import Derived.WalkKit
import Derived.ProofKit
import Derived.OpenShut
import Derived.ShutString
import Derived.ChangeOld
import Derived.Below
import Derived.Lib.SmallJoins
namespace Go.Proofs.Ytigapnbpgbfbhac.fnExactBestPlots
open Go.ChangeShapes Go.WideShapes Go.ChangeAt Go.RowKit Go.Joins
open Go.ChangeMaps (open_string shut_string)
set_option linter.unusedVariables false
set_option linter.unusedSimpArgs false

theorem own : ownKnob Try.prog.godebug = none := by kernel_rfl
theorem laidOut : laidOutB Try.prog = true := by kernel_rfl

set_option maxRecDepth 100000 in
set_option maxHeartbeats 6000000 in
theorem walk (a0 : Option Addr) (len0 cap0 : Nat) (x0 : List Pl) (a1 : Int) (w : World) (w0 : PlIn w a0 len0 cap0 x0) (w1 : (Lit.int .i64 a1).wf = true) :
    Calls Try.prog 5 #[.slice a0 len0 cap0, .int .i64 a1] w fun e w' => e = .returned (.bool true) ∧ Below w.heap.size w w' := by
  obtain ⟨rfl, h1, hlc, hcm⟩ := w0
  by_cases big : 1048576 < x0.length
  · have hm2 : x0.length ≤ 9223372036854775807 := by unfold maxLen at hcm; omega
    go_enter Try.func5, Try.ntmps5
    go_wp2_with fail
    refine (lszPl_no a0 x0.length cap0 _ big hm2).mono ?_
    rintro e w' ⟨rfl, rfl⟩
    go_wp2_with fail
    go_ret
    exact ⟨rfl, by go_grown⟩
  have n1 : x0.length ≤ 1048576 := by omega
  have B := Below.refl w.heap.size w
  obtain ⟨R, hR⟩ : ∃ R, bpV x0 a1 = R := ⟨_, rfl⟩
  have CS : ∀ (c : Nat) (A : Option Addr) (W : World), IsPl W A x0 → x0.length ≤ c → Calls Try.prog 19 #[.slice A x0.length c, .int .i64 a1] W (OutI W R) := fun c A W hW hc => by
    rw [← hR]; exact sBP A c x0 a1 W hW n1
  have CI : ∀ (c : Nat) (A : Option Addr) (W : World), IsPl W A x0 → x0.length ≤ c → Calls Try.prog 20 #[.slice A x0.length c, .int .i64 a1] W (OutI W R) := fun c A W hW hc => by
    rw [← hR]; exact iBP A c x0 a1 W hW n1 hc
  have nR : R.length ≤ 1048576 := by
    rw [← hR]; exact (Nat.le_trans (bpV_len _ _) n1)
  clear hR
  go_enter Try.func5, Try.ntmps5
  go_wp2_with fail
  refine (lszPl a0 x0.length cap0 _ n1).mono ?_
  rintro e w' ⟨rfl, rfl⟩
  go_wp2_with fail
  refine (ltoPl a0 cap0 x0 _ (pl_below h1 B) n1).mono ?_
  rintro e u2 ⟨g1, rfl, lg1, R1, C⟩
  have wg1 : w.heap.size ≤ g1 := Nat.le_trans B.size lg1
  replace B := bel_tr B C
  clear C
  go_wp2_with fail
  refine (CS _ _ _ R1.pl (Nat.le_refl _)).mono ?_
  rintro e u3 ⟨v2, rfl, O2, C⟩
  obtain ⟨b2, c2, rfl, I2⟩ := O2.ints
  replace B := bel_tr B C
  clear R1 C O2
  have D := Below.refl u3.heap.size u3
  go_wp2_with fail
  refine (ltoPl a0 cap0 x0 _ (pl_below h1 B) n1).mono ?_
  rintro e u4 ⟨g3, rfl, lg3, R3, C⟩
  have wg3 : w.heap.size ≤ g3 := Nat.le_trans B.size lg3
  have dg3 : _ ≤ g3 := Nat.le_trans D.size lg3
  replace B := bel_tr B C
  replace D := bel_tr D C
  clear C
  go_wp2_with fail
  have lt3 := R3.lt
  have B4 := B.size
  have D4 := D.size
  refine (CI _ _ _ R3.pl (Nat.le_refl _)).mono ?_
  rintro e u5 ⟨v5, rfl, O5, C⟩
  obtain ⟨b5, c5, rfl, _⟩ := O5.ints
  replace B := bel_tr B C
  replace D := bel_tr D C
  replace R3 := R3.next C
  clear C
  go_wp2_with fail
  refine (leqIntS _ _ _ _ R _ O5.at_ (ints_below I2 D) nR).mono ?_
  rintro e u6 ⟨rfl, C⟩
  replace B := bel_tr B C
  replace D := bel_tr D C
  replace R3 := R3.next C
  replace O5 := O5.of_block C
  clear C
  go_wp2_with fail
  refine (ltoPl a0 cap0 x0 _ (pl_below h1 B) n1).mono ?_
  rintro e u7 ⟨g6, rfl, lg6, R6, C⟩
  have wg6 : w.heap.size ≤ g6 := Nat.le_trans B.size lg6
  have dg6 : _ ≤ g6 := Nat.le_trans D.size lg6
  replace B := bel_tr B C
  replace D := bel_tr D C
  replace R3 := R3.next C
  replace O5 := O5.of_block C
  clear C
  go_wp2_with fail
  refine (leqPl _ _ _ _ x0 _ R3.pl R6.pl n1).mono ?_
  rintro e u8 ⟨rfl, C⟩
  replace B := bel_tr B C
  replace D := bel_tr D C
  replace R3 := R3.next C
  replace O5 := O5.of_block C
  replace R6 := R6.next C
  clear C
  go_wp2_with fail
  clear R6
  have hl0 := flatPl_len x0
  refine (lmarkPl g3 _ x0.length _ _ R3 hl0 n1).mono ?_
  rintro e u9 ⟨rfl, F8, G⟩
  clear F8
  replace B := below_gv B G (fun q hq => by have e := Option.some.inj hq; omega)
  replace D := below_gv D G (fun q hq => by have e := Option.some.inj hq; omega)
  replace O5 := O5.apart G (fun q hq => by have e := Option.some.inj hq; omega)
  clear G
  go_wp2_with fail
  refine (leqIntS _ _ _ _ R _ O5.at_ (ints_below I2 D) nR).mono ?_
  rintro e u10 ⟨rfl, C⟩
  replace B := bel_tr B C
  replace D := bel_tr D C
  replace O5 := O5.of_block C
  clear C
  go_wp2_with fail
  refine (lmarkO _ _ _ R _ O5 nR).mono ?_
  rintro e u11 ⟨rfl, O10, G⟩
  have q5 := O5.grow
  replace B := below_gv B G (fun q hq => by have := q5 q hq; omega)
  replace D := below_gv D G (fun q hq => by have := q5 q hq; omega)
  clear G
  clear O5 q5
  go_wp2_with fail
  refine (lheldO _ _ _ _ _ O10 nR).mono ?_
  rintro e w' ⟨rfl, rfl⟩
  go_wp2_with fail
  refine (ltoPl a0 cap0 x0 _ (pl_below h1 B) n1).mono ?_
  rintro e u13 ⟨g11, rfl, lg11, R11, C⟩
  have wg11 : w.heap.size ≤ g11 := Nat.le_trans B.size lg11
  have dg11 : _ ≤ g11 := Nat.le_trans D.size lg11
  replace B := bel_tr B C
  replace D := bel_tr D C
  replace O10 := O10.of_block C
  clear C
  go_wp2_with fail
  refine (CI _ _ _ R11.pl (Nat.le_refl _)).mono ?_
  rintro e u14 ⟨v12, rfl, O12, C⟩
  obtain ⟨b12, c12, rfl, I12⟩ := O12.ints
  clear R11
  replace B := bel_tr B C
  replace D := bel_tr D C
  replace O10 := O10.of_block C
  clear C
  clear O12
  go_wp2_with fail
  refine (leqIntS _ _ _ _ R _ I12 (ints_below I2 D) nR).mono ?_
  rintro e u15 ⟨rfl, C⟩
  replace B := bel_tr B C
  replace D := bel_tr D C
  replace O10 := O10.of_block C
  clear C
  go_wp2_with fail
  refine (lheldO _ _ _ _ _ O10 nR).mono ?_
  rintro e w' ⟨rfl, rfl⟩
  go_wp2_with fail
  go_ret
  exact ⟨rfl, B⟩

set_option maxRecDepth 100000 in
theorem lifted (os : Os) (started : os.Started) (H : Type) (enc : TypeId × Value → H) :
    ReturnsInHanded {} Try.checked os 5 .any (Rows.fnExactBestPlotsSpec.pre6 enc Try.prog Try.f5 Rows.fnExactBestPlotsRow.domain false) (Rows.fnExactBestPlotsSpec.post enc Try.prog Try.f5 false true false false) := by
  refine returnsInHanded_of_change (C := Try.checked) own started (by kernel_rfl) Try.func5
    (ChangeSpec.witness6 (enc := enc) (C := Try.checked) false ⟨#[], #[.slice none 0 0, .int .i64 0], []⟩ 8 (by kernel_rfl) (by kernel_rfl) (by kernel_rfl) (by kernel_rfl)) ?_
  intro W base args ds gs before hval0 hW hcnd _
  have hval : ∀ (j : Nat) t v, Try.f5.params[j]? = some t → args[j]? = some v → Value.okWide Try.prog W .any base t v := hval0
  have hW' := hW
  obtain ⟨p, q, hA0, hV, rfl, hfz, hnd⟩ := hW
  have hA : DataW.TrodAll enc Try.prog W 0 (fun _ => true) true Try.f5.params.toList args.toList ds p := hA0
  rw [Try.params5] at hA hval
  obtain ⟨v0, vs0, e0, es0, p0, q0, hargs, rfl, rfl, h0, r0⟩ := trodAll_cons hA
  obtain ⟨v1, vs1, e1, es1, p1, q1, rfl, rfl, rfl, h1, r1⟩ := trodAll_cons r0
  obtain ⟨rfl, rfl, rfl⟩ := trodAll_nil r1
  obtain rfl : args = #[v0, v1] := by cases args; simp_all
  obtain ⟨rfl, rfl⟩ := trodVars_none hV
  have k0 := h0
  have lt0 : ∀ x ∈ p0, x.block < W.heap.size := by obtain ⟨m, hm⟩ := k0; exact DataW.trod_lt m _ _ _ hm
  obtain ⟨a0, len0, cap0, rfl⟩ := okWide_slice Try.underlying22 (hval 0 22 v0 rfl rfl)
  obtain ⟨x0, w0⟩ : ∃ xs, PlIn W a0 len0 cap0 xs := by
    obtain ⟨fuel, hf⟩ := h0
    exact open_pls hf
  have k1 := h1
  have lt1 : ∀ x ∈ p1, x.block < W.heap.size := by obtain ⟨m, hm⟩ := k1; exact DataW.trod_lt m _ _ _ hm
  obtain ⟨a1, rfl, _, _, w1⟩ := open_int Try.underlying3 (hval 1 3 v1 rfl rfl) h1
  clear hA0 hval0
  refine (walk a0 len0 cap0 x0 a1 W w0 w1).mono fun e W' ⟨he, bel⟩ => ?_
  subst he
  exact ⟨_, rfl, _, _, _, [], _, [], hW', trodAll_mk1 (shut_bool Try.underlying4 _), (trodAll_cons_mk (Below.trod laidOut (by kernel_rfl) (of_decide_eq_true (by kernel_rfl)) k0 bel lt0) (trodAll_cons_mk (Below.trod laidOut (by kernel_rfl) (of_decide_eq_true (by kernel_rfl)) k1 bel lt1) trodAll_mk0)), rfl, bel.frame _, fun h => by cases h⟩

theorem over : Rows.fnExactBestPlotsRow.holds Try.pinned (OpenSpec.ofChange Rows.fnExactBestPlotsSpec) :=
  OpenClaim.holds_of_wide 5 Try.f5 rfl rfl rfl rfl rfl rfl rfl ⟨rfl, rfl, rfl, rfl, rfl⟩ rfl rfl rfl rfl rfl (by kernel_rfl) Try.func5 (by kernel_rfl)
    (of_decide_eq_true (by kernel_rfl)) (by unfold Func.isWrapper; first | (rw [if_pos (by decide +kernel)]; kernel_rfl) | (rw [if_neg (by decide +kernel)]; exact ⟨rfl, rfl⟩))
    (fun os started H enc _ => lifted os started H enc)

end Go.Proofs.Ytigapnbpgbfbhac.fnExactBestPlots
namespace Go.Proofs.Ytigapnbpgbfbhac
/-- the statement -/
theorem fnExactBestPlots_holds : Rows.FnExactBestPlotsSaid := fnExactBestPlots.over
end Go.Proofs.Ytigapnbpgbfbhac
