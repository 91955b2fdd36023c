/- For every input the law answers true, and its arguments read afterwards as before: impl.MissingAt answers as its model. No condition. -/
import Derived.Test.YtigapnbpgbfbhaaRows
import Derived.Test.YtigapnbpgbfbhaaLawNd
import Derived.Test.YtigapnbpgbfbhaaMeaJ
import Derived.Test.YtigapnbpgbfbhaaGrA
import Derived.Test.YtigapnbpgbfbhaaMarkS
import Derived.WalkKit
import Derived.ProofKit
import Derived.OpenShut
import Derived.ShutString
import Derived.ChangeOld
import Derived.Below
import Derived.Lib.SmallJoins
namespace Go.Proofs.Ytigapnbpgbfbhaa.fnExactMissingAt
open Go.ChangeShapes Go.WideShapes Go.ChangeAt Go.RowKit Go.Joins
open Go.ChangeMaps (open_string shut_string)
set_option linter.unusedVariables false
set_option linter.unusedSimpArgs false

theorem own : ownKnob Try.prog.godebug = none := by kernel_rfl
theorem laidOut : laidOutB Try.prog = true := by kernel_rfl

set_option maxRecDepth 100000 in
set_option maxHeartbeats 6000000 in
theorem walk (a0 : Option Addr) (len0 cap0 : Nat) (x0 : List Nd) (a1 : Option Addr) (len1 cap1 : Nat) (z1 : List Int) (w : World) (w0 : NdIn w a0 len0 cap0 x0) (w1 : IsRow .i64 w a1 len1 cap1 z1) :
    Calls Try.prog 4 #[.slice a0 len0 cap0, .slice a1 len1 cap1] w fun e w' => e = .returned (.bool true) ∧ Below w.heap.size w w' := by
  obtain ⟨rfl, h1, hlc, hcm⟩ := w0
  obtain ⟨zs, rfl, hz0⟩ := row_is w1
  clear w1
  by_cases bigz : (1048576 : Int) < (zs.length : Int)
  · go_enter Try.func4, Try.ntmps4
    go_wp2_with fail
    go_ret
    exact ⟨rfl, by go_grown⟩
  have nz : zs.length ≤ 1048576 := by omega
  by_cases big : 1048576 < x0.length
  · have hm2 : x0.length ≤ 9223372036854775807 := by unfold maxLen at hcm; omega
    go_enter Try.func4, Try.ntmps4
    go_wp2_with fail
    refine (lszNd_no a0 x0.length cap0 _ big hm2).mono ?_
    rintro e w' ⟨rfl, rfl⟩
    go_wp2_with fail
    go_ret
    exact ⟨rfl, by go_grown⟩
  have n1 : x0.length ≤ 1048576 := by omega
  have B := Below.refl w.heap.size w
  obtain ⟨R, hR⟩ : ∃ R, misV x0 zs = R := ⟨_, rfl⟩
  have CS : ∀ (c : Nat) (A : Option Addr) (W : World) (c2 : Nat) (A2 : Option Addr), IsNd W A x0 → x0.length ≤ c → IsInts W A2 zs → Calls Try.prog 24 #[.slice A x0.length c, .slice A2 zs.length c2] W (OutI W R) := fun c A W c2 A2 hW hc hI => by
    rw [← hR]; exact (fun A A2 c c2 x zs W hW n hI nz => sMis A A2 c c2 x zs W hW hI n nz) A A2 c c2 x0  zs W hW n1 hI nz
  have CI : ∀ (c : Nat) (A : Option Addr) (W : World) (c2 : Nat) (A2 : Option Addr), IsNd W A x0 → x0.length ≤ c → IsInts W A2 zs → Calls Try.prog 25 #[.slice A x0.length c, .slice A2 zs.length c2] W (OutI W R) := fun c A W c2 A2 hW hc hI => by
    rw [← hR]; exact (fun A A2 c c2 x zs W hW n hc hI nz => iMis A A2 c c2 x zs W hW hI n nz hc) A A2 c c2 x0  zs W hW n1 hc hI nz
  have nR : R.length ≤ 1048576 := by
    rw [← hR]; exact (by unfold misV; split; rw [misF_len]; exact n1; simp)
  clear hR
  go_enter Try.func4, Try.ntmps4
  go_wp2_with fail
  refine (lszNd a0 x0.length cap0 _ n1).mono ?_
  rintro e w' ⟨rfl, rfl⟩
  go_wp2_with fail
  refine (ltoNd a0 cap0 x0 _ (nd_below h1 B) n1).mono ?_
  rintro e u2 ⟨g1, rfl, lg1, R1, C⟩
  have wg1 : w.heap.size ≤ g1 := Nat.le_trans B.size lg1
  replace B := bel_tr B C
  clear C
  go_wp2_with fail
  refine (ltoIntS a1 cap1 zs _ (ints_below hz0 B) nz).mono ?_
  rintro e u3 ⟨p1, rfl, lp1, T1, C⟩
  have wp1 : w.heap.size ≤ p1 := Nat.le_trans B.size lp1
  replace B := bel_tr B C
  replace R1 := R1.next C
  clear C
  go_wp2_with fail
  refine (CS _ _ _ _ _ R1.nd (Nat.le_refl _) (row_ints T1)).mono ?_
  rintro e u4 ⟨v2, rfl, O2, C⟩
  obtain ⟨b2, c2, rfl, I2⟩ := O2.ints
  replace B := bel_tr B C
  clear R1 T1 C O2
  have D := Below.refl u4.heap.size u4
  go_wp2_with fail
  refine (ltoNd a0 cap0 x0 _ (nd_below h1 B) n1).mono ?_
  rintro e u5 ⟨g3, rfl, lg3, R3, C⟩
  have wg3 : w.heap.size ≤ g3 := Nat.le_trans B.size lg3
  have dg3 : _ ≤ g3 := Nat.le_trans D.size lg3
  replace B := bel_tr B C
  replace D := bel_tr D C
  clear C
  go_wp2_with fail
  have lt3 := R3.lt
  refine (ltoIntS a1 cap1 zs _ (ints_below hz0 B) nz).mono ?_
  rintro e u6 ⟨p4, rfl, lp4, T4, C⟩
  have wp4 : w.heap.size ≤ p4 := Nat.le_trans B.size lp4
  have dp4 : _ ≤ p4 := Nat.le_trans D.size lp4
  replace B := bel_tr B C
  replace D := bel_tr D C
  replace R3 := R3.next C
  clear C
  go_wp2_with fail
  have lt4 := World.rowIs.lt T4
  have ne34 : g3 ≠ p4 := by omega
  have ne43 : p4 ≠ g3 := by omega
  have lt3 := R3.lt
  have B4 := B.size
  have D4 := D.size
  refine (CI _ _ _ _ _ R3.nd (Nat.le_refl _) (row_ints T4)).mono ?_
  rintro e u7 ⟨v5, rfl, O5, C⟩
  obtain ⟨b5, c5, rfl, _⟩ := O5.ints
  replace B := bel_tr B C
  replace D := bel_tr D C
  replace R3 := R3.next C
  replace T4 := row_keep T4 C
  clear C
  go_wp2_with fail
  refine (leqIntS _ _ _ _ R _ O5.at_ (ints_below I2 D) nR).mono ?_
  rintro e u8 ⟨rfl, C⟩
  replace B := bel_tr B C
  replace D := bel_tr D C
  replace R3 := R3.next C
  replace T4 := row_keep T4 C
  replace O5 := O5.of_block C
  clear C
  go_wp2_with fail
  refine (ltoNd a0 cap0 x0 _ (nd_below h1 B) n1).mono ?_
  rintro e u9 ⟨g6, rfl, lg6, R6, C⟩
  have wg6 : w.heap.size ≤ g6 := Nat.le_trans B.size lg6
  have dg6 : _ ≤ g6 := Nat.le_trans D.size lg6
  replace B := bel_tr B C
  replace D := bel_tr D C
  replace R3 := R3.next C
  replace T4 := row_keep T4 C
  replace O5 := O5.of_block C
  clear C
  go_wp2_with fail
  refine (leqNd _ _ _ _ x0 _ R3.nd R6.nd n1).mono ?_
  rintro e u10 ⟨rfl, C⟩
  replace B := bel_tr B C
  replace D := bel_tr D C
  replace R3 := R3.next C
  replace T4 := row_keep T4 C
  replace O5 := O5.of_block C
  replace R6 := R6.next C
  clear C
  go_wp2_with fail
  clear R6
  refine (ltoIntS a1 cap1 zs _ (ints_below hz0 B) nz).mono ?_
  rintro e u11 ⟨p7, rfl, lp7, T7, C⟩
  have wp7 : w.heap.size ≤ p7 := Nat.le_trans B.size lp7
  have dp7 : _ ≤ p7 := Nat.le_trans D.size lp7
  replace B := bel_tr B C
  replace D := bel_tr D C
  replace R3 := R3.next C
  replace T4 := row_keep T4 C
  replace O5 := O5.of_block C
  clear C
  go_wp2_with fail
  refine (leqIntS _ _ _ _ zs _ (row_ints T4) (row_ints T7) nz).mono ?_
  rintro e u12 ⟨rfl, C⟩
  replace B := bel_tr B C
  replace D := bel_tr D C
  replace R3 := R3.next C
  replace T4 := row_keep T4 C
  replace O5 := O5.of_block C
  replace T7 := row_keep T7 C
  clear C
  go_wp2_with fail
  clear T7
  have hl0 := flatNd_len x0
  refine (lmarkNd g3 _ x0.length _ _ R3 hl0 n1).mono ?_
  rintro e u13 ⟨rfl, F8, G⟩
  clear F8
  replace B := below_gv B G (fun q hq => by have e := Option.some.inj hq; omega)
  replace D := below_gv D G (fun q hq => by have e := Option.some.inj hq; omega)
  replace T4 := row_apart T4 G ne43
  replace O5 := O5.apart G (fun q hq => by have e := Option.some.inj hq; omega)
  clear G
  go_wp2_with fail
  refine (lmarkS p4 _ zs _ (1 + ((x0.length * 5 : Nat) : Int)) T4 nz (by omega) (by omega)).mono ?_
  rintro e u14 ⟨rfl, G⟩
  replace B := below_gv B G (fun q hq => by have e := Option.some.inj hq; omega)
  replace D := below_gv D G (fun q hq => by have e := Option.some.inj hq; omega)
  replace O5 := O5.apart G (fun q hq => by have e := Option.some.inj hq; omega)
  clear G
  go_wp2_with fail
  refine (leqIntS _ _ _ _ R _ O5.at_ (ints_below I2 D) nR).mono ?_
  rintro e u15 ⟨rfl, C⟩
  replace B := bel_tr B C
  replace D := bel_tr D C
  replace O5 := O5.of_block C
  clear C
  go_wp2_with fail
  refine (lmarkO _ _ _ R _ O5 nR).mono ?_
  rintro e u16 ⟨rfl, O10, G⟩
  have q5 := O5.grow
  replace B := below_gv B G (fun q hq => by have := q5 q hq; omega)
  replace D := below_gv D G (fun q hq => by have := q5 q hq; omega)
  clear G
  clear O5 q5
  go_wp2_with fail
  refine (lheldO _ _ _ _ _ O10 nR).mono ?_
  rintro e w' ⟨rfl, rfl⟩
  go_wp2_with fail
  refine (ltoNd a0 cap0 x0 _ (nd_below h1 B) n1).mono ?_
  rintro e u18 ⟨g11, rfl, lg11, R11, C⟩
  have wg11 : w.heap.size ≤ g11 := Nat.le_trans B.size lg11
  have dg11 : _ ≤ g11 := Nat.le_trans D.size lg11
  replace B := bel_tr B C
  replace D := bel_tr D C
  replace O10 := O10.of_block C
  clear C
  go_wp2_with fail
  refine (ltoIntS a1 cap1 zs _ (ints_below hz0 B) nz).mono ?_
  rintro e u19 ⟨p11, rfl, lp11, T11, C⟩
  have wp11 : w.heap.size ≤ p11 := Nat.le_trans B.size lp11
  have dp11 : _ ≤ p11 := Nat.le_trans D.size lp11
  replace B := bel_tr B C
  replace D := bel_tr D C
  replace O10 := O10.of_block C
  replace R11 := R11.next C
  clear C
  go_wp2_with fail
  refine (CI _ _ _ _ _ R11.nd (Nat.le_refl _) (row_ints T11)).mono ?_
  rintro e u20 ⟨v12, rfl, O12, C⟩
  obtain ⟨b12, c12, rfl, I12⟩ := O12.ints
  clear R11 T11
  replace B := bel_tr B C
  replace D := bel_tr D C
  replace O10 := O10.of_block C
  clear C
  clear O12
  go_wp2_with fail
  refine (leqIntS _ _ _ _ R _ I12 (ints_below I2 D) nR).mono ?_
  rintro e u21 ⟨rfl, C⟩
  replace B := bel_tr B C
  replace D := bel_tr D C
  replace O10 := O10.of_block C
  clear C
  go_wp2_with fail
  refine (lheldO _ _ _ _ _ O10 nR).mono ?_
  rintro e w' ⟨rfl, rfl⟩
  go_wp2_with fail
  go_ret
  exact ⟨rfl, B⟩

set_option maxRecDepth 100000 in
theorem lifted (os : Os) (started : os.Started) (H : Type) (enc : TypeId × Value → H) :
    ReturnsInHanded {} Try.checked os 4 .any (Rows.fnExactMissingAtSpec.pre6 enc Try.prog Try.f4 Rows.fnExactMissingAtRow.domain false) (Rows.fnExactMissingAtSpec.post enc Try.prog Try.f4 false true false false) := by
  refine returnsInHanded_of_change (C := Try.checked) own started (by kernel_rfl) Try.func4
    (ChangeSpec.witness6 (enc := enc) (C := Try.checked) false ⟨#[], #[.slice none 0 0, .slice none 0 0], []⟩ 8 (by kernel_rfl) (by kernel_rfl) (by kernel_rfl) (by kernel_rfl)) ?_
  intro W base args ds gs before hval0 hW hcnd _
  have hval : ∀ (j : Nat) t v, Try.f4.params[j]? = some t → args[j]? = some v → Value.okWide Try.prog W .any base t v := hval0
  have hW' := hW
  obtain ⟨p, q, hA0, hV, rfl, hfz, hnd⟩ := hW
  have hA : DataW.TrodAll enc Try.prog W 0 (fun _ => true) true Try.f4.params.toList args.toList ds p := hA0
  rw [Try.params4] at hA hval
  obtain ⟨v0, vs0, e0, es0, p0, q0, hargs, rfl, rfl, h0, r0⟩ := trodAll_cons hA
  obtain ⟨v1, vs1, e1, es1, p1, q1, rfl, rfl, rfl, h1, r1⟩ := trodAll_cons r0
  obtain ⟨rfl, rfl, rfl⟩ := trodAll_nil r1
  obtain rfl : args = #[v0, v1] := by cases args; simp_all
  obtain ⟨rfl, rfl⟩ := trodVars_none hV
  have k0 := h0
  have lt0 : ∀ x ∈ p0, x.block < W.heap.size := by obtain ⟨m, hm⟩ := k0; exact DataW.trod_lt m _ _ _ hm
  obtain ⟨a0, len0, cap0, rfl⟩ := okWide_slice Try.underlying22 (hval 0 22 v0 rfl rfl)
  obtain ⟨x0, w0⟩ : ∃ xs, NdIn W a0 len0 cap0 xs := by
    obtain ⟨fuel, hf⟩ := h0
    exact open_nds hf
  have k1 := h1
  have lt1 : ∀ x ∈ p1, x.block < W.heap.size := by obtain ⟨m, hm⟩ := k1; exact DataW.trod_lt m _ _ _ hm
  obtain ⟨a1, len1, cap1, rfl⟩ := okWide_slice Try.underlying23 (hval 1 23 v1 rfl rfl)
  obtain ⟨z1, w1⟩ : ∃ zs, IsRow .i64 W a1 len1 cap1 zs := by
    obtain ⟨fuel, hf⟩ := h1
    rcases open_ints Try.underlying23 Try.underlying3 (by kernel_rfl) hf with ⟨hcs, _⟩ | ⟨x, l, c, zs, hcs, _, hl, hm, hz, _, hcell, hwz⟩
    · simp [Value.cells] at hcs
      obtain ⟨rfl, rfl, rfl⟩ := hcs
      exact ⟨[], .inl ⟨rfl, rfl, rfl, rfl⟩⟩
    · simp [Value.cells] at hcs
      obtain ⟨rfl, rfl, rfl⟩ := hcs
      exact ⟨zs, .inr ⟨_, rfl, hl, hm, by simpa using hz, hcell, hwz⟩⟩
  clear hA0 hval0
  refine (walk a0 len0 cap0 x0 a1 len1 cap1 z1 W w0 w1).mono fun e W' ⟨he, bel⟩ => ?_
  subst he
  exact ⟨_, rfl, _, _, _, [], _, [], hW', trodAll_mk1 (shut_bool Try.underlying4 _), (trodAll_cons_mk (Below.trod laidOut (by kernel_rfl) (of_decide_eq_true (by kernel_rfl)) k0 bel lt0) (trodAll_cons_mk (Below.trod laidOut (by kernel_rfl) (of_decide_eq_true (by kernel_rfl)) k1 bel lt1) trodAll_mk0)), rfl, bel.frame _, fun h => by cases h⟩

theorem over : Rows.fnExactMissingAtRow.holds Try.pinned (OpenSpec.ofChange Rows.fnExactMissingAtSpec) :=
  OpenClaim.holds_of_wide 4 Try.f4 rfl rfl rfl rfl rfl rfl rfl ⟨rfl, rfl, rfl, rfl, rfl⟩ rfl rfl rfl rfl rfl (by kernel_rfl) Try.func4 (by kernel_rfl)
    (of_decide_eq_true (by kernel_rfl)) (by unfold Func.isWrapper; first | (rw [if_pos (by decide +kernel)]; kernel_rfl) | (rw [if_neg (by decide +kernel)]; exact ⟨rfl, rfl⟩))
    (fun os started H enc _ => lifted os started H enc)

end Go.Proofs.Ytigapnbpgbfbhaa.fnExactMissingAt
namespace Go.Proofs.Ytigapnbpgbfbhaa
/-- the statement -/
theorem fnExactMissingAt_holds : Rows.FnExactMissingAtSaid := fnExactMissingAt.over
end Go.Proofs.Ytigapnbpgbfbhaa
