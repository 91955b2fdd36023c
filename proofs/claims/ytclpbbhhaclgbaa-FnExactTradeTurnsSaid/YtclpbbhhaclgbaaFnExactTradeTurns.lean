/- For every input the law answers true, and its arguments read afterwards as before: impl.TradeTurns answers as its model. No condition. -/
import Derived.Test.YtclpbbhhaclgbaaRows
import Derived.Test.YtclpbbhhaclgbaaRowMk
import Derived.Test.YtclpbbhhaclgbaaTrdT
import Derived.WalkKit
import Derived.ProofKit
import Derived.OpenShut
import Derived.ShutString
import Derived.ChangeOld
import Derived.Below
import Derived.Lib.SmallJoins
namespace Go.Proofs.Ytclpbbhhaclgbaa.fnExactTradeTurns
open Go.ChangeShapes Go.WideShapes Go.ChangeAt Go.RowKit Go.Joins
open Go.ChangeMaps (open_string shut_string)
set_option linter.unusedVariables false
set_option linter.unusedSimpArgs false

theorem own : ownKnob Try.prog.godebug = none := by kernel_rfl
theorem laidOut : laidOutB Try.prog = true := by kernel_rfl

set_option maxRecDepth 100000 in
set_option maxHeartbeats 4000000 in
theorem walk (a0 : Option Addr) (len0 cap0 : Nat) (rs0 : List (List Int)) (w : World) (w0 : RowsIn w a0 len0 cap0 rs0) :
    Calls Try.prog 4 #[.slice a0 len0 cap0] w fun e w' => e = .returned (.bool true) ∧ Below w.heap.size w w' := by
  obtain ⟨rfl, h1, hlc, hcm, hrm⟩ := w0
  have m0 : rs0.length ≤ 9223372036854775807 := by unfold maxLen at hcm; omega
  have m1 : ∀ r ∈ rs0, r.length ≤ 9223372036854775807 := fun r hr => by have := hrm r hr; unfold maxLen at this; omega
  have B := Below.refl w.heap.size w
  have CZ := lszSS a0 cap0 rs0 1048576 w h1 (by omega) (by omega) m0 m1
  by_cases big : szSS 1048576 rs0 < 0
  · have e0 : decide (szSS 1048576 rs0 < 0) = true := decide_eq_true big
    clear big hrm m1
    generalize szSS 1048576 rs0 = z at *
    go_enter Try.func4, Try.ntmps4
    go_wp2_with fail
    refine CZ.mono ?_
    rintro e w' ⟨rfl, rfl⟩
    go_wp2_with fail
    go_ret
    exact ⟨rfl, B⟩
  have e0 : decide (szSS 1048576 rs0 < 0) = false := decide_eq_false big
  obtain ⟨n1, n2⟩ := szSS_pos big (by omega)
  have n1 : rs0.length ≤ 1048576 := by omega
  have HN : Hid (∀ r ∈ rs0, r.length ≤ 1048576) := fun r hr => by have := n2 r hr; omega
  have HSU := Lib.hid (szSS_sum big)
  obtain ⟨R, hR⟩ : ∃ R, tradeV rs0 = R := ⟨_, rfl⟩
  have nR : R.length ≤ 1048576 := by
    rw [← hR]
    cases hv : wishB rs0 with
    | false => rw [tr_no hv]; simp
    | true => unfold tradeV; rw [if_pos hv, (got_is hv rs0.length).1]; exact n1
  have CS : Hid (∀ (A : Option Addr) (c : Nat) (W : World), IsRows W A rs0 → Calls Try.prog 16 #[.slice A rs0.length c] W (OutI W R)) := fun A c W hW => by
    rw [← hR]; exact sTrade A c rs0 W hW n1
  have CI : Hid (∀ (A : Option Addr) (c : Nat) (W : World), IsRows W A rs0 → Calls Try.prog 17 #[.slice A rs0.length c] W (OutI W R)) := fun A c W hW => by
    rw [← hR]; exact iTrade A c rs0 W hW n1
  clear hR big hrm m1 n2
  generalize szSS 1048576 rs0 = z at *
  go_enter Try.func4, Try.ntmps4
  go_wp2_with fail
  refine CZ.mono ?_
  rintro e w' ⟨rfl, rfl⟩
  clear CZ
  go_wp2_with fail
  refine (ltoSS a0 cap0 rs0 _ (rows_below h1 B) n1 HN.out).mono ?_
  rintro e u1 ⟨g1, G1, rfl, lg1, R1, C⟩
  replace B := bel_tr B C
  replace R1 := R1.rows
  clear C
  go_wp2_with fail
  refine (CS.out _ _ _ R1).mono ?_
  rintro e u2 ⟨v0, rfl, O0, C⟩
  obtain ⟨b0, c0, rfl, _⟩ := O0.ints
  replace B := bel_tr B C
  have D := Below.refl u2.heap.size u2
  have I0 := O0.at_
  have wu := B.size
  clear C R1 O0
  go_wp2_with fail
  refine (ltoSS a0 cap0 rs0 _ (rows_below h1 B) n1 HN.out).mono ?_
  rintro e u3 ⟨g3, G3, rfl, lg3, R3, C⟩
  have HBD : Hid (∀ j, j < rs0.length → u2.heap.size ≤ G3 j ∧ G3 j < u3.heap.size) := fun j hj => ⟨by have := (R3.2.1 j hj).1; omega, (R3.2.1 j hj).2.lt⟩
  have lt3 := R3.1.lt
  have d3 : u2.heap.size ≤ u3.heap.size := C.size
  replace B := bel_tr B C
  replace D := bel_tr D C
  have E := Below.refl u3.heap.size u3
  have HR3 := Lib.hid R3
  clear C R3
  go_wp2_with fail
  refine (CI.out _ _ _ HR3.out.rows).mono ?_
  rintro e u4 ⟨v6, rfl, O6, C⟩
  obtain ⟨b6, c6, rfl, _⟩ := O6.ints
  replace B := bel_tr B C
  replace D := bel_tr D C
  replace E := bel_tr E C
  clear C
  go_wp2_with fail
  refine (leqIntS _ _ _ _ R _ O6.at_ (ints_below I0 D) nR).mono ?_
  rintro e u5 ⟨rfl, C⟩
  replace B := bel_tr B C
  replace D := bel_tr D C
  replace E := bel_tr E C
  replace O6 := O6.of_block C
  clear C
  go_wp2_with fail
  refine (ltoSS a0 cap0 rs0 _ (rows_below h1 B) n1 HN.out).mono ?_
  rintro e u6 ⟨g6, G6, rfl, lg6, R6, C⟩
  replace B := bel_tr B C
  replace D := bel_tr D C
  replace E := bel_tr E C
  replace O6 := O6.of_block C
  replace R6 := R6.rows
  clear C
  go_wp2_with fail
  refine (leqSS _ _ _ _ rs0 _ (rows_below HR3.out.rows E) R6 n1 HN.out).mono ?_
  rintro e u7 ⟨rfl, C⟩
  replace B := bel_tr B C
  replace D := bel_tr D C
  replace E := bel_tr E C
  replace O6 := O6.of_block C
  clear C R6
  go_wp2_with fail
  refine (lmarkSS g3 _ u2.heap.size u3.heap.size G3 rs0 _ (HR3.out.next lt3 E) n1 HN.out HSU.out HBD.out).mono ?_
  rintro e u8 ⟨s, rfl, s0, K1, K2⟩
  have es : decide (s < 0) = false := decide_eq_false (by omega)
  replace B := K2 w wu B
  replace D := K2 u2 (Nat.le_refl _) D
  replace O6 := K1 _ _ _ O6 (fun q hq => O6.grow q hq)
  clear K1 K2 E HR3 HBD
  go_wp2_with fail
  refine (leqIntS _ _ _ _ R _ O6.at_ (ints_below I0 D) nR).mono ?_
  rintro e u9 ⟨rfl, C⟩
  replace B := bel_tr B C
  replace D := bel_tr D C
  replace O6 := O6.of_block C
  clear C
  go_wp2_with fail
  refine (lmarkO _ _ _ R _ O6 nR).mono ?_
  rintro e u10 ⟨rfl, O10, G⟩
  replace B := below_gv B G (fun q hq => by have := O6.grow q hq; omega)
  replace D := below_gv D G (fun q hq => by have := O6.grow q hq; omega)
  clear G O6
  have en : decide (1 + (R.length : Int) < 0) = false := decide_eq_false (by omega)
  go_wp2_with fail
  refine (lheldO _ _ _ _ _ O10 nR).mono ?_
  rintro e w' ⟨rfl, rfl⟩
  go_wp2_with fail
  refine (ltoSS a0 cap0 rs0 _ (rows_below h1 B) n1 HN.out).mono ?_
  rintro e u12 ⟨g12, G12, rfl, lg12, R12, C⟩
  replace B := bel_tr B C
  replace D := bel_tr D C
  replace O10 := O10.of_block C
  replace R12 := R12.rows
  clear C
  go_wp2_with fail
  refine (CI.out _ _ _ R12).mono ?_
  rintro e u13 ⟨v13, rfl, O13, C⟩
  obtain ⟨b13, c13, rfl, _⟩ := O13.ints
  replace B := bel_tr B C
  replace D := bel_tr D C
  replace O10 := O10.of_block C
  clear C R12
  go_wp2_with fail
  refine (leqIntS _ _ _ _ R _ O13.at_ (ints_below I0 D) nR).mono ?_
  rintro e u14 ⟨rfl, C⟩
  replace B := bel_tr B C
  replace O10 := O10.of_block C
  clear C O13 D I0
  go_wp2_with fail
  refine (lheldO _ _ _ _ _ O10 nR).mono ?_
  rintro e w' ⟨rfl, rfl⟩
  go_wp2_with fail
  go_ret
  exact ⟨rfl, B⟩

set_option maxRecDepth 100000 in
theorem lifted (os : Os) (started : os.Started) (H : Type) (enc : TypeId × Value → H) :
    ReturnsInHanded {} Try.checked os 4 .any (Rows.fnExactTradeTurnsSpec.pre6 enc Try.prog Try.f4 Rows.fnExactTradeTurnsRow.domain false) (Rows.fnExactTradeTurnsSpec.post enc Try.prog Try.f4 false true false false) := by
  refine returnsInHanded_of_change (C := Try.checked) own started (by kernel_rfl) Try.func4
    (ChangeSpec.witness6 (enc := enc) (C := Try.checked) false ⟨#[], #[.slice none 0 0], []⟩ 8 (by kernel_rfl) (by kernel_rfl) (by kernel_rfl) (by kernel_rfl)) ?_
  intro W base args ds gs before hval0 hW hcnd _
  have hval : ∀ (j : Nat) t v, Try.f4.params[j]? = some t → args[j]? = some v → Value.okWide Try.prog W .any base t v := hval0
  have hW' := hW
  obtain ⟨p, q, hA0, hV, rfl, hfz, hnd⟩ := hW
  have hA : DataW.TrodAll enc Try.prog W 0 (fun _ => true) true Try.f4.params.toList args.toList ds p := hA0
  rw [Try.params4] at hA hval
  obtain ⟨v0, vs0, e0, es0, p0, q0, hargs, rfl, rfl, h0, r0⟩ := trodAll_cons hA
  obtain ⟨rfl, rfl, rfl⟩ := trodAll_nil r0
  obtain rfl : args = #[v0] := by cases args; simp_all
  obtain ⟨rfl, rfl⟩ := trodVars_none hV
  have k0 := h0
  have lt0 : ∀ x ∈ p0, x.block < W.heap.size := by obtain ⟨m, hm⟩ := k0; exact DataW.trod_lt m _ _ _ hm
  obtain ⟨a0, len0, cap0, rfl⟩ := okWide_slice Try.underlying22 (hval 0 22 v0 rfl rfl)
  obtain ⟨rs0, w0⟩ : ∃ rs, RowsIn W a0 len0 cap0 rs := by
    obtain ⟨fuel, hf⟩ := h0
    exact open_rows hf
  clear hA0 hval0
  refine (walk a0 len0 cap0 rs0 W w0).mono fun e W' ⟨he, bel⟩ => ?_
  subst he
  exact ⟨_, rfl, _, _, _, [], _, [], hW', trodAll_mk1 (shut_bool Try.underlying4 _), (trodAll_cons_mk (Below.trod laidOut (by kernel_rfl) (of_decide_eq_true (by kernel_rfl)) k0 bel lt0) trodAll_mk0), rfl, bel.frame _, fun h => by cases h⟩

theorem over : Rows.fnExactTradeTurnsRow.holds Try.pinned (OpenSpec.ofChange Rows.fnExactTradeTurnsSpec) :=
  OpenClaim.holds_of_wide 4 Try.f4 rfl rfl rfl rfl rfl rfl rfl ⟨rfl, rfl, rfl, rfl, rfl⟩ rfl rfl rfl rfl rfl (by kernel_rfl) Try.func4 (by kernel_rfl)
    (of_decide_eq_true (by kernel_rfl)) (by unfold Func.isWrapper; first | (rw [if_pos (by decide +kernel)]; kernel_rfl) | (rw [if_neg (by decide +kernel)]; exact ⟨rfl, rfl⟩))
    (fun os started H enc _ => lifted os started H enc)

end Go.Proofs.Ytclpbbhhaclgbaa.fnExactTradeTurns
namespace Go.Proofs.Ytclpbbhhaclgbaa
/-- the statement -/
theorem fnExactTradeTurns_holds : Rows.FnExactTradeTurnsSaid := fnExactTradeTurns.over
end Go.Proofs.Ytclpbbhhaclgbaa
