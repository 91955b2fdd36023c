/- For every input the law answers true, and its arguments read afterwards as before: impl.ValidPlots answers as its model. No condition. -/
import Derived.Test.YtigapnbpgbfbhacRows
import Derived.Test.YtigapnbpgbfbhacLawPl
import Derived.Test.YtigapnbpgbfbhacPloT
import Derived.WalkKit
import Derived.ProofKit
import Derived.OpenShut
import Derived.ShutString
import Derived.ChangeOld
import Derived.Below
import Derived.Lib.SmallJoins
namespace Go.Proofs.Ytigapnbpgbfbhac.fnExactValidPlots
open Go.ChangeShapes Go.WideShapes Go.ChangeAt Go.RowKit Go.Joins
open Go.ChangeMaps (open_string shut_string)
set_option linter.unusedVariables false
set_option linter.unusedSimpArgs false

theorem own : ownKnob Try.prog.godebug = none := by kernel_rfl
theorem laidOut : laidOutB Try.prog = true := by kernel_rfl

set_option maxRecDepth 100000 in
set_option maxHeartbeats 4000000 in
theorem walk (a0 : Option Addr) (len0 cap0 : Nat) (x0 : List Pl) (w : World) (w0 : PlIn w a0 len0 cap0 x0) :
    Calls Try.prog 3 #[.slice a0 len0 cap0] w fun e w' => e = .returned (.bool true) ∧ Below w.heap.size w w' := by
  obtain ⟨rfl, h1, hlc, hcm⟩ := w0
  by_cases big : 1048576 < x0.length
  · have hm2 : x0.length ≤ 9223372036854775807 := by unfold maxLen at hcm; omega
    go_enter Try.func3, Try.ntmps3
    go_wp2_with fail
    refine (lszPl_no a0 x0.length cap0 _ big hm2).mono ?_
    rintro e w' ⟨rfl, rfl⟩
    go_wp2_with fail
    go_ret
    exact ⟨rfl, by go_grown⟩
  have n1 : x0.length ≤ 1048576 := by omega
  have B := Below.refl w.heap.size w
  obtain ⟨V, hV⟩ : ∃ V, vpB x0 = V := ⟨_, rfl⟩
  have CS : ∀ (c : Nat) (A : Option Addr) (W : World), IsPl W A x0 → x0.length ≤ c → Calls Try.prog 13 #[.slice A x0.length c] W fun e w' => e = .returned (.bool V) ∧ Below W.heap.size W w' := fun c A W hW hc => by
    rw [← hV]; exact sVP A c x0  W hW n1
  have CI : ∀ (c : Nat) (A : Option Addr) (W : World), IsPl W A x0 → x0.length ≤ c → Calls Try.prog 15 #[.slice A x0.length c] W fun e w' => e = .returned (.bool V) ∧ Below W.heap.size W w' := fun c A W hW hc => by
    rw [← hV]; exact (fun A c y W p q _ => iVP A c y W p q) A c x0  W hW n1 hc
  clear hV
  go_enter Try.func3, Try.ntmps3
  go_wp2_with fail
  refine (lszPl a0 x0.length cap0 _ n1).mono ?_
  rintro e w' ⟨rfl, rfl⟩
  go_wp2_with fail
  refine (ltoPl a0 cap0 x0 _ (pl_below h1 B) n1).mono ?_
  rintro e u1 ⟨g1, rfl, lg1, R1, C⟩
  replace B := bel_tr B C
  clear C
  go_wp2_with fail
  refine (CS _ _ _ R1.pl (Nat.le_refl _)).mono ?_
  rintro e u2 ⟨rfl, C⟩
  replace B := bel_tr B C
  clear C
  go_wp2_with fail
  refine (ltoPl a0 cap0 x0 _ (pl_below h1 B) n1).mono ?_
  rintro e u3 ⟨g3, rfl, lg3, R3, C⟩
  replace B := bel_tr B C
  clear C
  go_wp2_with fail
  refine (CI _ _ _ R3.pl (Nat.le_refl _)).mono ?_
  rintro e u4 ⟨rfl, C⟩
  replace B := bel_tr B C
  replace R3 := R3.next C
  clear C
  go_wp2_with fail
  refine (ltoPl a0 cap0 x0 _ (pl_below h1 B) n1).mono ?_
  rintro e u5 ⟨g5, rfl, lg5, R5, C⟩
  replace B := bel_tr B C
  replace R3 := R3.next C
  clear C
  go_wp2_with fail
  refine (leqPl _ _ _ _ x0 _ R3.pl R5.pl n1).mono ?_
  rintro e u6 ⟨rfl, C⟩
  replace B := bel_tr B C
  clear C
  go_wp2_with fail
  go_ret
  exact ⟨rfl, B⟩

set_option maxRecDepth 100000 in
theorem lifted (os : Os) (started : os.Started) (H : Type) (enc : TypeId × Value → H) :
    ReturnsInHanded {} Try.checked os 3 .any (Rows.fnExactValidPlotsSpec.pre6 enc Try.prog Try.f3 Rows.fnExactValidPlotsRow.domain false) (Rows.fnExactValidPlotsSpec.post enc Try.prog Try.f3 false true false false) := by
  refine returnsInHanded_of_change (C := Try.checked) own started (by kernel_rfl) Try.func3
    (ChangeSpec.witness6 (enc := enc) (C := Try.checked) false ⟨#[], #[.slice none 0 0], []⟩ 8 (by kernel_rfl) (by kernel_rfl) (by kernel_rfl) (by kernel_rfl)) ?_
  intro W base args ds gs before hval0 hW hcnd _
  have hval : ∀ (j : Nat) t v, Try.f3.params[j]? = some t → args[j]? = some v → Value.okWide Try.prog W .any base t v := hval0
  have hW' := hW
  obtain ⟨p, q, hA0, hV, rfl, hfz, hnd⟩ := hW
  have hA : DataW.TrodAll enc Try.prog W 0 (fun _ => true) true Try.f3.params.toList args.toList ds p := hA0
  rw [Try.params3] at hA hval
  obtain ⟨v0, vs0, e0, es0, p0, q0, hargs, rfl, rfl, h0, r0⟩ := trodAll_cons hA
  obtain ⟨rfl, rfl, rfl⟩ := trodAll_nil r0
  obtain rfl : args = #[v0] := by cases args; simp_all
  obtain ⟨rfl, rfl⟩ := trodVars_none hV
  have k0 := h0
  have lt0 : ∀ x ∈ p0, x.block < W.heap.size := by obtain ⟨m, hm⟩ := k0; exact DataW.trod_lt m _ _ _ hm
  obtain ⟨a0, len0, cap0, rfl⟩ := okWide_slice Try.underlying22 (hval 0 22 v0 rfl rfl)
  obtain ⟨x0, w0⟩ : ∃ xs, PlIn W a0 len0 cap0 xs := by
    obtain ⟨fuel, hf⟩ := h0
    exact open_pls hf
  clear hA0 hval0
  refine (walk a0 len0 cap0 x0 W w0).mono fun e W' ⟨he, bel⟩ => ?_
  subst he
  exact ⟨_, rfl, _, _, _, [], _, [], hW', trodAll_mk1 (shut_bool Try.underlying4 _), (trodAll_cons_mk (Below.trod laidOut (by kernel_rfl) (of_decide_eq_true (by kernel_rfl)) k0 bel lt0) trodAll_mk0), rfl, bel.frame _, fun h => by cases h⟩

theorem over : Rows.fnExactValidPlotsRow.holds Try.pinned (OpenSpec.ofChange Rows.fnExactValidPlotsSpec) :=
  OpenClaim.holds_of_wide 3 Try.f3 rfl rfl rfl rfl rfl rfl rfl ⟨rfl, rfl, rfl, rfl, rfl⟩ rfl rfl rfl rfl rfl (by kernel_rfl) Try.func3 (by kernel_rfl)
    (of_decide_eq_true (by kernel_rfl)) (by unfold Func.isWrapper; first | (rw [if_pos (by decide +kernel)]; kernel_rfl) | (rw [if_neg (by decide +kernel)]; exact ⟨rfl, rfl⟩))
    (fun os started H enc _ => lifted os started H enc)

end Go.Proofs.Ytigapnbpgbfbhac.fnExactValidPlots
namespace Go.Proofs.Ytigapnbpgbfbhac
/-- the statement -/
theorem fnExactValidPlots_holds : Rows.FnExactValidPlotsSaid := fnExactValidPlots.over
end Go.Proofs.Ytigapnbpgbfbhac
