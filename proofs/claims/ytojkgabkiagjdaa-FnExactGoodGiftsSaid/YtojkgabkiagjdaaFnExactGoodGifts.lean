/- For every input the law answers true, and its arguments read afterwards as before: impl.GoodGifts answers as its model. No condition. -/
import Derived.Test.YtojkgabkiagjdaaRows
import Derived.Test.YtojkgabkiagjdaaClmX
import Derived.WalkKit
import Derived.ProofKit
import Derived.OpenShut
import Derived.ShutString
import Derived.ChangeOld
import Derived.Below
import Derived.Lib.SmallJoins
namespace Go.Proofs.Ytojkgabkiagjdaa.fnExactGoodGifts
open Go.ChangeShapes Go.WideShapes Go.ChangeAt Go.RowKit Go.Joins
open Go.ChangeMaps (open_string shut_string)
set_option linter.unusedVariables false
set_option linter.unusedSimpArgs false

theorem own : ownKnob Try.prog.godebug = none := by kernel_rfl
theorem laidOut : laidOutB Try.prog = true := by kernel_rfl

set_option maxRecDepth 100000 in
set_option maxHeartbeats 6000000 in
theorem walk (a0 : Int) (a1 : Option Addr) (len1 cap1 : Nat) (z1 : List Int) (a2 : Option Addr) (len2 cap2 : Nat) (z2 : List Int) (w : World) (w0 : (Lit.int .i64 a0).wf = true) (w1 : IsRow .i64 w a1 len1 cap1 z1) (w2 : IsRow .i64 w a2 len2 cap2 z2) :
    Calls Try.prog 12 #[.int .i64 a0, .slice a1 len1 cap1, .slice a2 len2 cap2] w fun e w' => e = .returned (.bool true) ∧ Below w.heap.size w w' := by
  obtain ⟨zs1, rfl, hz1⟩ := row_is w1
  clear w1
  obtain ⟨zs2, rfl, hz2⟩ := row_is w2
  clear w2
  by_cases big1 : (1048576 : Int) < (zs1.length : Int)
  · go_enter Try.func12, Try.ntmps12
    go_wp2_with fail
    go_ret
    exact ⟨rfl, by go_grown⟩
  have nz1 : zs1.length ≤ 1048576 := by omega
  by_cases big2 : (1048576 : Int) < (zs2.length : Int)
  · go_enter Try.func12, Try.ntmps12
    go_wp2_with fail
    go_ret
    exact ⟨rfl, by go_grown⟩
  have nz2 : zs2.length ≤ 1048576 := by omega
  obtain ⟨V, hV⟩ : ∃ V, ggB a0 zs1 zs2 = V := ⟨_, rfl⟩
  have CS : ∀ (A1 : Option Addr) (c1 : Nat) (A2 : Option Addr) (c2 : Nat) (W : World), IsInts W A1 zs1 → IsInts W A2 zs2 → Calls Try.prog 35 #[.int .i64 a0, .slice A1 zs1.length c1, .slice A2 zs2.length c2] W fun e w' => e = .returned (.bool V) ∧ Below W.heap.size W w' := fun A1 c1 A2 c2 W h1 h2 => by rw [← hV]; exact sGifts a0 A1 A2 c1 c2 zs1 zs2 W h1 h2 nz1 nz2
  have CI : ∀ (A1 : Option Addr) (c1 : Nat) (A2 : Option Addr) (c2 : Nat) (W : World), IsInts W A1 zs1 → IsInts W A2 zs2 → Calls Try.prog 36 #[.int .i64 a0, .slice A1 zs1.length c1, .slice A2 zs2.length c2] W fun e w' => e = .returned (.bool V) ∧ Below W.heap.size W w' := fun A1 c1 A2 c2 W h1 h2 => by rw [← hV]; exact (iGifts a0 A1 A2 c1 c2 zs1 zs2 W h1 h2 nz1 nz2).mono (fun _ _ h => ⟨h.1, by obtain ⟨_, rfl⟩ := h; exact Below.refl _ _⟩)
  clear hV
  have HCS := Lib.hid CS
  have HCI := Lib.hid CI
  clear CS CI
  go_enter Try.func12, Try.ntmps12
  have B := Below.refl w.heap.size w
  go_wp2_with fail
  refine (ltoIntS a1 cap1 zs1 _ (ints_below hz1 B) nz1).mono ?_
  rintro e u1_ ⟨s1, rfl, ls1, Ts1, C⟩
  have ws1 : w.heap.size ≤ s1 := Nat.le_trans B.size ls1
  replace B := bel_tr B C
  clear C
  go_wp2_with fail
  have lt_Ts1_s2 := World.rowIs.lt Ts1
  refine (ltoIntS a2 cap2 zs2 _ (ints_below hz2 B) nz2).mono ?_
  rintro e u2_ ⟨s2, rfl, ls2, Ts2, C⟩
  have ws2 : w.heap.size ≤ s2 := Nat.le_trans B.size ls2
  have ne_Ts1_s2 : s1 ≠ s2 := by omega
  have en_Ts1_s2 : s2 ≠ s1 := by omega
  replace B := bel_tr B C
  replace Ts1 := row_keep Ts1 C
  clear C
  go_wp2_with fail
  refine (HCS.out _ _ _ _ _ (row_ints Ts1) (row_ints Ts2)).mono ?_
  rintro e u3_ ⟨rfl, C⟩
  replace B := bel_tr B C
  replace Ts1 := row_keep Ts1 C
  replace Ts2 := row_keep Ts2 C
  clear C
  clear Ts1 Ts2
  go_wp2_with fail
  refine (ltoIntS a1 cap1 zs1 _ (ints_below hz1 B) nz1).mono ?_
  rintro e u4_ ⟨x1, rfl, lx1, Tx1, C⟩
  have wx1 : w.heap.size ≤ x1 := Nat.le_trans B.size lx1
  replace B := bel_tr B C
  clear C
  go_wp2_with fail
  have lt_Tx1_x2 := World.rowIs.lt Tx1
  refine (ltoIntS a2 cap2 zs2 _ (ints_below hz2 B) nz2).mono ?_
  rintro e u5_ ⟨x2, rfl, lx2, Tx2, C⟩
  have wx2 : w.heap.size ≤ x2 := Nat.le_trans B.size lx2
  have ne_Tx1_x2 : x1 ≠ x2 := by omega
  have en_Tx1_x2 : x2 ≠ x1 := by omega
  replace B := bel_tr B C
  replace Tx1 := row_keep Tx1 C
  clear C
  go_wp2_with fail
  refine (HCI.out _ _ _ _ _ (row_ints Tx1) (row_ints Tx2)).mono ?_
  rintro e u6_ ⟨rfl, C⟩
  replace B := bel_tr B C
  replace Tx1 := row_keep Tx1 C
  replace Tx2 := row_keep Tx2 C
  clear C
  go_wp2_with fail
  have lt_Tx1_y1 := World.rowIs.lt Tx1
  have lt_Tx2_y1 := World.rowIs.lt Tx2
  refine (ltoIntS a1 cap1 zs1 _ (ints_below hz1 B) nz1).mono ?_
  rintro e u7_ ⟨y1, rfl, ly1, Ty1, C⟩
  have wy1 : w.heap.size ≤ y1 := Nat.le_trans B.size ly1
  have ne_Tx1_y1 : x1 ≠ y1 := by omega
  have en_Tx1_y1 : y1 ≠ x1 := by omega
  have ne_Tx2_y1 : x2 ≠ y1 := by omega
  have en_Tx2_y1 : y1 ≠ x2 := by omega
  replace B := bel_tr B C
  replace Tx1 := row_keep Tx1 C
  replace Tx2 := row_keep Tx2 C
  clear C
  go_wp2_with fail
  refine (leqIntS _ _ _ _ zs1 _ (row_ints Tx1) (row_ints Ty1) nz1).mono ?_
  rintro e u8_ ⟨rfl, C⟩
  replace B := bel_tr B C
  replace Tx1 := row_keep Tx1 C
  replace Tx2 := row_keep Tx2 C
  replace Ty1 := row_keep Ty1 C
  clear C
  clear Ty1
  go_wp2_with fail
  have lt_Tx1_y2 := World.rowIs.lt Tx1
  have lt_Tx2_y2 := World.rowIs.lt Tx2
  refine (ltoIntS a2 cap2 zs2 _ (ints_below hz2 B) nz2).mono ?_
  rintro e u9_ ⟨y2, rfl, ly2, Ty2, C⟩
  have wy2 : w.heap.size ≤ y2 := Nat.le_trans B.size ly2
  have ne_Tx1_y2 : x1 ≠ y2 := by omega
  have en_Tx1_y2 : y2 ≠ x1 := by omega
  have ne_Tx2_y2 : x2 ≠ y2 := by omega
  have en_Tx2_y2 : y2 ≠ x2 := by omega
  replace B := bel_tr B C
  replace Tx1 := row_keep Tx1 C
  replace Tx2 := row_keep Tx2 C
  clear C
  go_wp2_with fail
  refine (leqIntS _ _ _ _ zs2 _ (row_ints Tx2) (row_ints Ty2) nz2).mono ?_
  rintro e u10_ ⟨rfl, C⟩
  replace B := bel_tr B C
  replace Tx1 := row_keep Tx1 C
  replace Tx2 := row_keep Tx2 C
  replace Ty2 := row_keep Ty2 C
  clear C
  clear Ty2
  go_wp2_with fail
  go_ret
  exact ⟨rfl, B⟩

set_option maxRecDepth 100000 in
theorem lifted (os : Os) (started : os.Started) (H : Type) (enc : TypeId × Value → H) :
    ReturnsInHanded {} Try.checked os 12 .any (Rows.fnExactGoodGiftsSpec.pre6 enc Try.prog Try.f12 Rows.fnExactGoodGiftsRow.domain false) (Rows.fnExactGoodGiftsSpec.post enc Try.prog Try.f12 false true false false) := by
  refine returnsInHanded_of_change (C := Try.checked) own started (by kernel_rfl) Try.func12
    (ChangeSpec.witness6 (enc := enc) (C := Try.checked) false ⟨#[], #[.int .i64 0, .slice none 0 0, .slice none 0 0], []⟩ 8 (by kernel_rfl) (by kernel_rfl) (by kernel_rfl) (by kernel_rfl)) ?_
  intro W base args ds gs before hval0 hW hcnd _
  have hval : ∀ (j : Nat) t v, Try.f12.params[j]? = some t → args[j]? = some v → Value.okWide Try.prog W .any base t v := hval0
  have hW' := hW
  obtain ⟨p, q, hA0, hV, rfl, hfz, hnd⟩ := hW
  have hA : DataW.TrodAll enc Try.prog W 0 (fun _ => true) true Try.f12.params.toList args.toList ds p := hA0
  rw [Try.params12] at hA hval
  obtain ⟨v0, vs0, e0, es0, p0, q0, hargs, rfl, rfl, h0, r0⟩ := trodAll_cons hA
  obtain ⟨v1, vs1, e1, es1, p1, q1, rfl, rfl, rfl, h1, r1⟩ := trodAll_cons r0
  obtain ⟨v2, vs2, e2, es2, p2, q2, rfl, rfl, rfl, h2, r2⟩ := trodAll_cons r1
  obtain ⟨rfl, rfl, rfl⟩ := trodAll_nil r2
  obtain rfl : args = #[v0, v1, v2] := by cases args; simp_all
  obtain ⟨rfl, rfl⟩ := trodVars_none hV
  have k0 := h0
  have lt0 : ∀ x ∈ p0, x.block < W.heap.size := by obtain ⟨m, hm⟩ := k0; exact DataW.trod_lt m _ _ _ hm
  obtain ⟨a0, rfl, _, _, w0⟩ := open_int Try.underlying3 (hval 0 3 v0 rfl rfl) h0
  have k1 := h1
  have lt1 : ∀ x ∈ p1, x.block < W.heap.size := by obtain ⟨m, hm⟩ := k1; exact DataW.trod_lt m _ _ _ hm
  obtain ⟨a1, len1, cap1, rfl⟩ := okWide_slice Try.underlying22 (hval 1 22 v1 rfl rfl)
  obtain ⟨z1, w1⟩ : ∃ zs, IsRow .i64 W a1 len1 cap1 zs := by
    obtain ⟨fuel, hf⟩ := h1
    rcases open_ints Try.underlying22 Try.underlying3 (by kernel_rfl) hf with ⟨hcs, _⟩ | ⟨x, l, c, zs, hcs, _, hl, hm, hz, _, hcell, hwz⟩
    · simp [Value.cells] at hcs
      obtain ⟨rfl, rfl, rfl⟩ := hcs
      exact ⟨[], .inl ⟨rfl, rfl, rfl, rfl⟩⟩
    · simp [Value.cells] at hcs
      obtain ⟨rfl, rfl, rfl⟩ := hcs
      exact ⟨zs, .inr ⟨_, rfl, hl, hm, by simpa using hz, hcell, hwz⟩⟩
  have k2 := h2
  have lt2 : ∀ x ∈ p2, x.block < W.heap.size := by obtain ⟨m, hm⟩ := k2; exact DataW.trod_lt m _ _ _ hm
  obtain ⟨a2, len2, cap2, rfl⟩ := okWide_slice Try.underlying22 (hval 2 22 v2 rfl rfl)
  obtain ⟨z2, w2⟩ : ∃ zs, IsRow .i64 W a2 len2 cap2 zs := by
    obtain ⟨fuel, hf⟩ := h2
    rcases open_ints Try.underlying22 Try.underlying3 (by kernel_rfl) hf with ⟨hcs, _⟩ | ⟨x, l, c, zs, hcs, _, hl, hm, hz, _, hcell, hwz⟩
    · simp [Value.cells] at hcs
      obtain ⟨rfl, rfl, rfl⟩ := hcs
      exact ⟨[], .inl ⟨rfl, rfl, rfl, rfl⟩⟩
    · simp [Value.cells] at hcs
      obtain ⟨rfl, rfl, rfl⟩ := hcs
      exact ⟨zs, .inr ⟨_, rfl, hl, hm, by simpa using hz, hcell, hwz⟩⟩
  clear hA0 hval0
  refine (walk a0 a1 len1 cap1 z1 a2 len2 cap2 z2 W w0 w1 w2).mono fun e W' ⟨he, bel⟩ => ?_
  subst he
  exact ⟨_, rfl, _, _, _, [], _, [], hW', trodAll_mk1 (shut_bool Try.underlying4 _), (trodAll_cons_mk (Below.trod laidOut (by kernel_rfl) (of_decide_eq_true (by kernel_rfl)) k0 bel lt0) (trodAll_cons_mk (Below.trod laidOut (by kernel_rfl) (of_decide_eq_true (by kernel_rfl)) k1 bel lt1) (trodAll_cons_mk (Below.trod laidOut (by kernel_rfl) (of_decide_eq_true (by kernel_rfl)) k2 bel lt2) trodAll_mk0))), rfl, bel.frame _, fun h => by cases h⟩

theorem over : Rows.fnExactGoodGiftsRow.holds Try.pinned (OpenSpec.ofChange Rows.fnExactGoodGiftsSpec) :=
  OpenClaim.holds_of_wide 12 Try.f12 rfl rfl rfl rfl rfl rfl rfl ⟨rfl, rfl, rfl, rfl, rfl⟩ rfl rfl rfl rfl rfl (by kernel_rfl) Try.func12 (by kernel_rfl)
    (of_decide_eq_true (by kernel_rfl)) (by unfold Func.isWrapper; first | (rw [if_pos (by decide +kernel)]; kernel_rfl) | (rw [if_neg (by decide +kernel)]; exact ⟨rfl, rfl⟩))
    (fun os started H enc _ => lifted os started H enc)

end Go.Proofs.Ytojkgabkiagjdaa.fnExactGoodGifts
namespace Go.Proofs.Ytojkgabkiagjdaa
/-- the statement -/
theorem fnExactGoodGifts_holds : Rows.FnExactGoodGiftsSaid := fnExactGoodGifts.over
end Go.Proofs.Ytojkgabkiagjdaa
