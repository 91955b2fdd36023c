/- For every input the law answers true, and its arguments read afterwards as before: impl.DutyOrder answers as its model. No condition. -/
import Derived.Test.YtigapnbpgbfbhaaRows
import Derived.Test.YtigapnbpgbfbhaaDutI
import Derived.Test.YtigapnbpgbfbhaaDutS
import Derived.Test.YtigapnbpgbfbhaaGrA
import Derived.WalkKit
import Derived.ProofKit
import Derived.OpenShut
import Derived.ShutString
import Derived.ChangeOld
import Derived.Below
import Derived.Lib.SmallJoins
namespace Go.Proofs.Ytigapnbpgbfbhaa.fnExactDutyOrder
open Go.ChangeShapes Go.WideShapes Go.ChangeAt Go.RowKit Go.Joins
open Go.ChangeMaps (open_string shut_string)
set_option linter.unusedVariables false
set_option linter.unusedSimpArgs false

theorem own : ownKnob Try.prog.godebug = none := by kernel_rfl
theorem laidOut : laidOutB Try.prog = true := by kernel_rfl

set_option maxRecDepth 100000 in
set_option maxHeartbeats 6000000 in
theorem walk (a0 : Int) (a1 : Option Addr) (len1 cap1 : Nat) (z1 : List Int) (w : World) (w0 : (Lit.int .i64 a0).wf = true) (w1 : IsRow .i64 w a1 len1 cap1 z1) :
    Calls Try.prog 13 #[.int .i64 a0, .slice a1 len1 cap1] w fun e w' => e = .returned (.bool true) ∧ Below w.heap.size w w' := by
  obtain ⟨zs1, rfl, hz1⟩ := row_is w1
  clear w1
  by_cases big1 : (1048576 : Int) < (zs1.length : Int)
  · go_enter Try.func13, Try.ntmps13
    go_wp2_with fail
    go_ret
    exact ⟨rfl, by go_grown⟩
  have nz1 : zs1.length ≤ 1048576 := by omega
  obtain ⟨R, hR⟩ : ∃ R, duV a0 zs1 = R := ⟨_, rfl⟩
  have CS : ∀ (A1 : Option Addr) (c1 : Nat) (W : World), IsInts W A1 zs1 → Calls Try.prog 41 #[.int .i64 a0, .slice A1 zs1.length c1] W (OutI W R) := fun A1 c1 W h1 => by rw [← hR]; exact sDuty a0 A1 c1 zs1 W h1 nz1
  have CI : ∀ (A1 : Option Addr) (c1 : Nat) (W : World), IsInts W A1 zs1 → Calls Try.prog 42 #[.int .i64 a0, .slice A1 zs1.length c1] W (OutI W R) := fun A1 c1 W h1 => by rw [← hR]; exact iDuty a0 A1 c1 zs1 W h1 nz1
  have nR : R.length ≤ 1048576 := by rw [← hR]; exact (by unfold duV; split; rename_i c; have := (cs_yes c).1; rw [dutF_len]; omega; simp)
  clear hR
  have HCS := Lib.hid CS
  have HCI := Lib.hid CI
  clear CS CI
  go_enter Try.func13, Try.ntmps13
  have B := Below.refl w.heap.size w
  go_wp2_with fail
  refine (ltoIntS a1 cap1 zs1 _ (ints_below hz1 B) nz1).mono ?_
  rintro e u1_ ⟨s1, rfl, ls1, Ts1, C⟩
  have ws1 : w.heap.size ≤ s1 := Nat.le_trans B.size ls1
  replace B := bel_tr B C
  clear C
  go_wp2_with fail
  refine (HCS.out _ _ _ (row_ints Ts1)).mono ?_
  rintro e u2_ ⟨v2, rfl, O2, C⟩
  clear Ts1
  obtain ⟨b2, c2, rfl, I2⟩ := O2.ints
  replace B := bel_tr B C
  clear C
  clear O2
  have D := Below.refl u2_.heap.size u2_
  go_wp2_with fail
  refine (ltoIntS a1 cap1 zs1 _ (ints_below hz1 B) nz1).mono ?_
  rintro e u3_ ⟨x1, rfl, lx1, Tx1, C⟩
  have wx1 : w.heap.size ≤ x1 := Nat.le_trans B.size lx1
  have dx1 : _ ≤ x1 := Nat.le_trans D.size lx1
  replace B := bel_tr B C
  replace D := bel_tr D C
  clear C
  go_wp2_with fail
  have lb_Tx1_5 := World.rowIs.lt Tx1
  refine (HCI.out _ _ _ (row_ints Tx1)).mono ?_
  rintro e u4_ ⟨v5, rfl, O5, C⟩
  obtain ⟨b5, c5, rfl, I5⟩ := O5.ints
  have q5 := O5.grow
  have rx1 : ∀ q, (some x1 : Option Nat) = some q → q < _ := fun q hq => by have e := Option.some.inj hq; rw [← e]; exact lb_Tx1_5
  have B5 := Nat.le_trans B.size (Nat.le_refl _)
  have D5 := Nat.le_trans D.size (Nat.le_refl _)
  have wq5 : ∀ q, (Value.slice b5 R.length c5).ownBlock = some q → w.heap.size ≤ q := fun q hq => Nat.le_trans B5 (q5 q hq)
  have dq5 : ∀ q, (Value.slice b5 R.length c5).ownBlock = some q → _ ≤ q := fun q hq => Nat.le_trans D5 (q5 q hq)
  replace B := bel_tr B C
  replace D := bel_tr D C
  replace Tx1 := row_keep Tx1 C
  clear C
  go_wp2_with fail
  refine (leqIntS _ _ _ _ R _ O5.at_ (ints_below I2 D) nR).mono ?_
  rintro e u5_ ⟨rfl, C⟩
  replace B := bel_tr B C
  replace D := bel_tr D C
  replace Tx1 := row_keep Tx1 C
  replace O5 := O5.of_block C
  clear C
  go_wp2_with fail
  have lt_Tx1_y1 := World.rowIs.lt Tx1
  refine (ltoIntS a1 cap1 zs1 _ (ints_below hz1 B) nz1).mono ?_
  rintro e u6_ ⟨y1, rfl, ly1, Ty1, C⟩
  have wy1 : w.heap.size ≤ y1 := Nat.le_trans B.size ly1
  have dy1 : _ ≤ y1 := Nat.le_trans D.size ly1
  have ne_Tx1_y1 : x1 ≠ y1 := by omega
  have en_Tx1_y1 : y1 ≠ x1 := by omega
  replace B := bel_tr B C
  replace D := bel_tr D C
  replace Tx1 := row_keep Tx1 C
  replace O5 := O5.of_block C
  clear C
  go_wp2_with fail
  refine (leqIntS _ _ _ _ zs1 _ (row_ints Tx1) (row_ints Ty1) nz1).mono ?_
  rintro e u7_ ⟨rfl, C⟩
  replace B := bel_tr B C
  replace D := bel_tr D C
  replace Tx1 := row_keep Tx1 C
  replace O5 := O5.of_block C
  replace Ty1 := row_keep Ty1 C
  clear C
  clear Ty1
  go_wp2_with fail
  refine (lmarkS x1 _ zs1 _ (1) Tx1 nz1 (by omega) (by omega)).mono ?_
  rintro e u8_ ⟨rfl, G⟩
  replace B := below_gv B G (fun q hq => by have e := Option.some.inj hq; omega)
  replace D := below_gv D G (fun q hq => by have e := Option.some.inj hq; omega)
  replace O5 := O5.apart G rx1
  clear G
  go_wp2_with fail
  refine (leqIntS _ _ _ _ R _ O5.at_ (ints_below I2 D) nR).mono ?_
  rintro e u9_ ⟨rfl, C⟩
  replace B := bel_tr B C
  replace D := bel_tr D C
  replace O5 := O5.of_block C
  clear C
  go_wp2_with fail
  refine (lmarkO _ _ _ R _ O5 nR).mono ?_
  rintro e u10_ ⟨rfl, O10, G⟩
  replace B := below_gv B G wq5
  replace D := below_gv D G dq5
  clear G O5
  go_wp2_with fail
  refine (lheldO _ _ _ _ _ O10 nR).mono ?_
  rintro e u11_ ⟨rfl, rfl⟩
  go_wp2_with fail
  refine (ltoIntS a1 cap1 zs1 _ (ints_below hz1 B) nz1).mono ?_
  rintro e u12_ ⟨z1, rfl, lz1, Tz1, C⟩
  have wz1 : w.heap.size ≤ z1 := Nat.le_trans B.size lz1
  have dz1 : _ ≤ z1 := Nat.le_trans D.size lz1
  replace B := bel_tr B C
  replace D := bel_tr D C
  replace O10 := O10.of_block C
  clear C
  go_wp2_with fail
  have lb_Tz1_12 := World.rowIs.lt Tz1
  refine (HCI.out _ _ _ (row_ints Tz1)).mono ?_
  rintro e u13_ ⟨v12, rfl, O12, C⟩
  obtain ⟨b12, c12, rfl, I12⟩ := O12.ints
  replace B := bel_tr B C
  replace D := bel_tr D C
  replace O10 := O10.of_block C
  replace Tz1 := row_keep Tz1 C
  clear C
  clear O12
  go_wp2_with fail
  clear Tz1
  refine (leqIntS _ _ _ _ R _ I12 (ints_below I2 D) nR).mono ?_
  rintro e u14_ ⟨rfl, C⟩
  replace I12 := ints_below I12 C
  replace B := bel_tr B C
  replace D := bel_tr D C
  replace O10 := O10.of_block C
  clear C
  go_wp2_with fail
  refine (lheldO _ _ _ _ _ O10 nR).mono ?_
  rintro e u15_ ⟨rfl, rfl⟩
  go_wp2_with fail
  go_ret
  exact ⟨rfl, B⟩

set_option maxRecDepth 100000 in
theorem lifted (os : Os) (started : os.Started) (H : Type) (enc : TypeId × Value → H) :
    ReturnsInHanded {} Try.checked os 13 .any (Rows.fnExactDutyOrderSpec.pre6 enc Try.prog Try.f13 Rows.fnExactDutyOrderRow.domain false) (Rows.fnExactDutyOrderSpec.post enc Try.prog Try.f13 false true false false) := by
  refine returnsInHanded_of_change (C := Try.checked) own started (by kernel_rfl) Try.func13
    (ChangeSpec.witness6 (enc := enc) (C := Try.checked) false ⟨#[], #[.int .i64 0, .slice none 0 0], []⟩ 8 (by kernel_rfl) (by kernel_rfl) (by kernel_rfl) (by kernel_rfl)) ?_
  intro W base args ds gs before hval0 hW hcnd _
  have hval : ∀ (j : Nat) t v, Try.f13.params[j]? = some t → args[j]? = some v → Value.okWide Try.prog W .any base t v := hval0
  have hW' := hW
  obtain ⟨p, q, hA0, hV, rfl, hfz, hnd⟩ := hW
  have hA : DataW.TrodAll enc Try.prog W 0 (fun _ => true) true Try.f13.params.toList args.toList ds p := hA0
  rw [Try.params13] at hA hval
  obtain ⟨v0, vs0, e0, es0, p0, q0, hargs, rfl, rfl, h0, r0⟩ := trodAll_cons hA
  obtain ⟨v1, vs1, e1, es1, p1, q1, rfl, rfl, rfl, h1, r1⟩ := trodAll_cons r0
  obtain ⟨rfl, rfl, rfl⟩ := trodAll_nil r1
  obtain rfl : args = #[v0, v1] := by cases args; simp_all
  obtain ⟨rfl, rfl⟩ := trodVars_none hV
  have k0 := h0
  have lt0 : ∀ x ∈ p0, x.block < W.heap.size := by obtain ⟨m, hm⟩ := k0; exact DataW.trod_lt m _ _ _ hm
  obtain ⟨a0, rfl, _, _, w0⟩ := open_int Try.underlying3 (hval 0 3 v0 rfl rfl) h0
  have k1 := h1
  have lt1 : ∀ x ∈ p1, x.block < W.heap.size := by obtain ⟨m, hm⟩ := k1; exact DataW.trod_lt m _ _ _ hm
  obtain ⟨a1, len1, cap1, rfl⟩ := okWide_slice Try.underlying23 (hval 1 23 v1 rfl rfl)
  obtain ⟨z1, w1⟩ : ∃ zs, IsRow .i64 W a1 len1 cap1 zs := by
    obtain ⟨fuel, hf⟩ := h1
    rcases open_ints Try.underlying23 Try.underlying3 (by kernel_rfl) hf with ⟨hcs, _⟩ | ⟨x, l, c, zs, hcs, _, hl, hm, hz, _, hcell, hwz⟩
    · simp [Value.cells] at hcs
      obtain ⟨rfl, rfl, rfl⟩ := hcs
      exact ⟨[], .inl ⟨rfl, rfl, rfl, rfl⟩⟩
    · simp [Value.cells] at hcs
      obtain ⟨rfl, rfl, rfl⟩ := hcs
      exact ⟨zs, .inr ⟨_, rfl, hl, hm, by simpa using hz, hcell, hwz⟩⟩
  clear hA0 hval0
  refine (walk a0 a1 len1 cap1 z1 W w0 w1).mono fun e W' ⟨he, bel⟩ => ?_
  subst he
  exact ⟨_, rfl, _, _, _, [], _, [], hW', trodAll_mk1 (shut_bool Try.underlying4 _), (trodAll_cons_mk (Below.trod laidOut (by kernel_rfl) (of_decide_eq_true (by kernel_rfl)) k0 bel lt0) (trodAll_cons_mk (Below.trod laidOut (by kernel_rfl) (of_decide_eq_true (by kernel_rfl)) k1 bel lt1) trodAll_mk0)), rfl, bel.frame _, fun h => by cases h⟩

theorem over : Rows.fnExactDutyOrderRow.holds Try.pinned (OpenSpec.ofChange Rows.fnExactDutyOrderSpec) :=
  OpenClaim.holds_of_wide 13 Try.f13 rfl rfl rfl rfl rfl rfl rfl ⟨rfl, rfl, rfl, rfl, rfl⟩ rfl rfl rfl rfl rfl (by kernel_rfl) Try.func13 (by kernel_rfl)
    (of_decide_eq_true (by kernel_rfl)) (by unfold Func.isWrapper; first | (rw [if_pos (by decide +kernel)]; kernel_rfl) | (rw [if_neg (by decide +kernel)]; exact ⟨rfl, rfl⟩))
    (fun os started H enc _ => lifted os started H enc)

end Go.Proofs.Ytigapnbpgbfbhaa.fnExactDutyOrder
namespace Go.Proofs.Ytigapnbpgbfbhaa
/-- the statement -/
theorem fnExactDutyOrder_holds : Rows.FnExactDutyOrderSaid := fnExactDutyOrder.over
end Go.Proofs.Ytigapnbpgbfbhaa
