/- For every input the law answers true, and its arguments read afterwards as before: impl.SumsOf answers as its model. No condition. -/
import Derived.Test.YtongnppjekjmdaaRows
import Derived.Test.YtongnppjekjmdaaRunX
import Derived.WalkKit
import Derived.ProofKit
import Derived.OpenShut
import Derived.ShutString
import Derived.ChangeOld
import Derived.Below
import Derived.Lib.SmallJoins
namespace Go.Proofs.Ytongnppjekjmdaa.fnExactSumsOf
open Go.ChangeShapes Go.WideShapes Go.ChangeAt Go.RowKit Go.Joins
open Go.ChangeMaps (open_string shut_string)
set_option linter.unusedVariables false
set_option linter.unusedSimpArgs false

theorem own : ownKnob Try.prog.godebug = none := by kernel_rfl
theorem laidOut : laidOutB Try.prog = true := by kernel_rfl

set_option maxRecDepth 100000 in
set_option maxHeartbeats 6000000 in
theorem walk (a0 : Option Addr) (len0 cap0 : Nat) (z0 : List Int) (w : World) (w0 : IsRow .i64 w a0 len0 cap0 z0) :
    Calls Try.prog 12 #[.slice a0 len0 cap0] w fun e w' => e = .returned (.bool true) ∧ Below w.heap.size w w' := by
  obtain ⟨zs0, rfl, hz0⟩ := row_is w0
  clear w0
  by_cases big0 : (1048576 : Int) < (zs0.length : Int)
  · go_enter Try.func12, Try.ntmps12
    go_wp2_with fail
    go_ret
    exact ⟨rfl, by go_grown⟩
  have nz0 : zs0.length ≤ 1048576 := by omega
  obtain ⟨R, hR⟩ : ∃ R, sumsV zs0 = R := ⟨_, rfl⟩
  have CS : ∀ (A0 : Option Addr) (c0 : Nat) (W : World), IsInts W A0 zs0 → Calls Try.prog 38 #[.slice A0 zs0.length c0] W (OutI W R) := fun A0 c0 W h0 => by rw [← hR]; exact sSums A0 c0 zs0 W h0 nz0
  have CI : ∀ (A0 : Option Addr) (c0 : Nat) (W : World), IsInts W A0 zs0 → Calls Try.prog 39 #[.slice A0 zs0.length c0] W (OutI W R) := fun A0 c0 W h0 => by rw [← hR]; exact iSums A0 c0 zs0 W h0 nz0
  have nR : R.length ≤ 1048576 := by rw [← hR]; exact (by unfold sumsV; split; rw [sums_len]; exact nz0; simp)
  clear hR
  have HCS := Lib.hid CS
  have HCI := Lib.hid CI
  clear CS CI
  go_enter Try.func12, Try.ntmps12
  have B := Below.refl w.heap.size w
  go_wp2_with fail
  refine (ltoIntS a0 cap0 zs0 _ (ints_below hz0 B) nz0).mono ?_
  rintro e u1_ ⟨s0, rfl, ls0, Ts0, C⟩
  have ws0 : w.heap.size ≤ s0 := Nat.le_trans B.size ls0
  replace B := bel_tr B C
  clear C
  go_wp2_with fail
  refine (HCS.out _ _ _ (row_ints Ts0)).mono ?_
  rintro e u2_ ⟨v2, rfl, O2, C⟩
  clear Ts0
  obtain ⟨b2, c2, rfl, I2⟩ := O2.ints
  replace B := bel_tr B C
  clear C
  clear O2
  have D := Below.refl u2_.heap.size u2_
  go_wp2_with fail
  refine (ltoIntS a0 cap0 zs0 _ (ints_below hz0 B) nz0).mono ?_
  rintro e u3_ ⟨x0, rfl, lx0, Tx0, C⟩
  have wx0 : w.heap.size ≤ x0 := Nat.le_trans B.size lx0
  have dx0 : _ ≤ x0 := Nat.le_trans D.size lx0
  replace B := bel_tr B C
  replace D := bel_tr D C
  clear C
  go_wp2_with fail
  have lb_Tx0_5 := World.rowIs.lt Tx0
  refine (HCI.out _ _ _ (row_ints Tx0)).mono ?_
  rintro e u4_ ⟨v5, rfl, O5, C⟩
  obtain ⟨b5, c5, rfl, I5⟩ := O5.ints
  have q5 := O5.grow
  have rx0 : ∀ q, (some x0 : Option Nat) = some q → q < _ := fun q hq => by have e := Option.some.inj hq; rw [← e]; exact lb_Tx0_5
  have B5 := Nat.le_trans B.size (Nat.le_refl _)
  have D5 := Nat.le_trans D.size (Nat.le_refl _)
  have wq5 : ∀ q, (Value.slice b5 R.length c5).ownBlock = some q → w.heap.size ≤ q := fun q hq => Nat.le_trans B5 (q5 q hq)
  have dq5 : ∀ q, (Value.slice b5 R.length c5).ownBlock = some q → _ ≤ q := fun q hq => Nat.le_trans D5 (q5 q hq)
  replace B := bel_tr B C
  replace D := bel_tr D C
  replace Tx0 := row_keep Tx0 C
  clear C
  go_wp2_with fail
  refine (leqIntS _ _ _ _ R _ O5.at_ (ints_below I2 D) nR).mono ?_
  rintro e u5_ ⟨rfl, C⟩
  replace B := bel_tr B C
  replace D := bel_tr D C
  replace Tx0 := row_keep Tx0 C
  replace O5 := O5.of_block C
  clear C
  go_wp2_with fail
  have lt_Tx0_y0 := World.rowIs.lt Tx0
  refine (ltoIntS a0 cap0 zs0 _ (ints_below hz0 B) nz0).mono ?_
  rintro e u6_ ⟨y0, rfl, ly0, Ty0, C⟩
  have wy0 : w.heap.size ≤ y0 := Nat.le_trans B.size ly0
  have dy0 : _ ≤ y0 := Nat.le_trans D.size ly0
  have ne_Tx0_y0 : x0 ≠ y0 := by omega
  have en_Tx0_y0 : y0 ≠ x0 := by omega
  replace B := bel_tr B C
  replace D := bel_tr D C
  replace Tx0 := row_keep Tx0 C
  replace O5 := O5.of_block C
  clear C
  go_wp2_with fail
  refine (leqIntS _ _ _ _ zs0 _ (row_ints Tx0) (row_ints Ty0) nz0).mono ?_
  rintro e u7_ ⟨rfl, C⟩
  replace B := bel_tr B C
  replace D := bel_tr D C
  replace Tx0 := row_keep Tx0 C
  replace O5 := O5.of_block C
  replace Ty0 := row_keep Ty0 C
  clear C
  clear Ty0
  go_wp2_with fail
  refine (lmarkS x0 _ zs0 _ (1) Tx0 nz0 (by omega) (by omega)).mono ?_
  rintro e u8_ ⟨rfl, G⟩
  replace B := below_gv B G (fun q hq => by have e := Option.some.inj hq; omega)
  replace D := below_gv D G (fun q hq => by have e := Option.some.inj hq; omega)
  replace O5 := O5.apart G rx0
  clear G
  go_wp2_with fail
  refine (leqIntS _ _ _ _ R _ O5.at_ (ints_below I2 D) nR).mono ?_
  rintro e u9_ ⟨rfl, C⟩
  replace B := bel_tr B C
  replace D := bel_tr D C
  replace O5 := O5.of_block C
  clear C
  go_wp2_with fail
  refine (lmarkO _ _ _ R _ O5 nR).mono ?_
  rintro e u10_ ⟨rfl, O10, G⟩
  replace B := below_gv B G wq5
  replace D := below_gv D G dq5
  clear G O5
  go_wp2_with fail
  refine (lheldO _ _ _ _ _ O10 nR).mono ?_
  rintro e u11_ ⟨rfl, rfl⟩
  go_wp2_with fail
  refine (ltoIntS a0 cap0 zs0 _ (ints_below hz0 B) nz0).mono ?_
  rintro e u12_ ⟨z0, rfl, lz0, Tz0, C⟩
  have wz0 : w.heap.size ≤ z0 := Nat.le_trans B.size lz0
  have dz0 : _ ≤ z0 := Nat.le_trans D.size lz0
  replace B := bel_tr B C
  replace D := bel_tr D C
  replace O10 := O10.of_block C
  clear C
  go_wp2_with fail
  have lb_Tz0_12 := World.rowIs.lt Tz0
  refine (HCI.out _ _ _ (row_ints Tz0)).mono ?_
  rintro e u13_ ⟨v12, rfl, O12, C⟩
  obtain ⟨b12, c12, rfl, I12⟩ := O12.ints
  replace B := bel_tr B C
  replace D := bel_tr D C
  replace O10 := O10.of_block C
  replace Tz0 := row_keep Tz0 C
  clear C
  clear O12
  go_wp2_with fail
  clear Tz0
  refine (leqIntS _ _ _ _ R _ I12 (ints_below I2 D) nR).mono ?_
  rintro e u14_ ⟨rfl, C⟩
  replace I12 := ints_below I12 C
  replace B := bel_tr B C
  replace D := bel_tr D C
  replace O10 := O10.of_block C
  clear C
  go_wp2_with fail
  refine (lheldO _ _ _ _ _ O10 nR).mono ?_
  rintro e u15_ ⟨rfl, rfl⟩
  go_wp2_with fail
  go_ret
  exact ⟨rfl, B⟩

set_option maxRecDepth 100000 in
theorem lifted (os : Os) (started : os.Started) (H : Type) (enc : TypeId × Value → H) :
    ReturnsInHanded {} Try.checked os 12 .any (Rows.fnExactSumsOfSpec.pre6 enc Try.prog Try.f12 Rows.fnExactSumsOfRow.domain false) (Rows.fnExactSumsOfSpec.post enc Try.prog Try.f12 false true false false) := by
  refine returnsInHanded_of_change (C := Try.checked) own started (by kernel_rfl) Try.func12
    (ChangeSpec.witness6 (enc := enc) (C := Try.checked) false ⟨#[], #[.slice none 0 0], []⟩ 8 (by kernel_rfl) (by kernel_rfl) (by kernel_rfl) (by kernel_rfl)) ?_
  intro W base args ds gs before hval0 hW hcnd _
  have hval : ∀ (j : Nat) t v, Try.f12.params[j]? = some t → args[j]? = some v → Value.okWide Try.prog W .any base t v := hval0
  have hW' := hW
  obtain ⟨p, q, hA0, hV, rfl, hfz, hnd⟩ := hW
  have hA : DataW.TrodAll enc Try.prog W 0 (fun _ => true) true Try.f12.params.toList args.toList ds p := hA0
  rw [Try.params12] at hA hval
  obtain ⟨v0, vs0, e0, es0, p0, q0, hargs, rfl, rfl, h0, r0⟩ := trodAll_cons hA
  obtain ⟨rfl, rfl, rfl⟩ := trodAll_nil r0
  obtain rfl : args = #[v0] := by cases args; simp_all
  obtain ⟨rfl, rfl⟩ := trodVars_none hV
  have k0 := h0
  have lt0 : ∀ x ∈ p0, x.block < W.heap.size := by obtain ⟨m, hm⟩ := k0; exact DataW.trod_lt m _ _ _ hm
  obtain ⟨a0, len0, cap0, rfl⟩ := okWide_slice Try.underlying32 (hval 0 32 v0 rfl rfl)
  obtain ⟨z0, w0⟩ : ∃ zs, IsRow .i64 W a0 len0 cap0 zs := by
    obtain ⟨fuel, hf⟩ := h0
    rcases open_ints Try.underlying32 Try.underlying3 (by kernel_rfl) hf with ⟨hcs, _⟩ | ⟨x, l, c, zs, hcs, _, hl, hm, hz, _, hcell, hwz⟩
    · simp [Value.cells] at hcs
      obtain ⟨rfl, rfl, rfl⟩ := hcs
      exact ⟨[], .inl ⟨rfl, rfl, rfl, rfl⟩⟩
    · simp [Value.cells] at hcs
      obtain ⟨rfl, rfl, rfl⟩ := hcs
      exact ⟨zs, .inr ⟨_, rfl, hl, hm, by simpa using hz, hcell, hwz⟩⟩
  clear hA0 hval0
  refine (walk a0 len0 cap0 z0 W w0).mono fun e W' ⟨he, bel⟩ => ?_
  subst he
  exact ⟨_, rfl, _, _, _, [], _, [], hW', trodAll_mk1 (shut_bool Try.underlying4 _), (trodAll_cons_mk (Below.trod laidOut (by kernel_rfl) (of_decide_eq_true (by kernel_rfl)) k0 bel lt0) trodAll_mk0), rfl, bel.frame _, fun h => by cases h⟩

theorem over : Rows.fnExactSumsOfRow.holds Try.pinned (OpenSpec.ofChange Rows.fnExactSumsOfSpec) :=
  OpenClaim.holds_of_wide 12 Try.f12 rfl rfl rfl rfl rfl rfl rfl ⟨rfl, rfl, rfl, rfl, rfl⟩ rfl rfl rfl rfl rfl (by kernel_rfl) Try.func12 (by kernel_rfl)
    (of_decide_eq_true (by kernel_rfl)) (by unfold Func.isWrapper; first | (rw [if_pos (by decide +kernel)]; kernel_rfl) | (rw [if_neg (by decide +kernel)]; exact ⟨rfl, rfl⟩))
    (fun os started H enc _ => lifted os started H enc)

end Go.Proofs.Ytongnppjekjmdaa.fnExactSumsOf
namespace Go.Proofs.Ytongnppjekjmdaa
/-- the statement -/
theorem fnExactSumsOf_holds : Rows.FnExactSumsOfSaid := fnExactSumsOf.over
end Go.Proofs.Ytongnppjekjmdaa
