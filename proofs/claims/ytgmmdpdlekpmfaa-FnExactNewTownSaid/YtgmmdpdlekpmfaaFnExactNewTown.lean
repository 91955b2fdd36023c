/- For every input the law answers true, and its arguments read afterwards as before: impl.NewTown answers as its model. No condition. -/
import Derived.Test.YtgmmdpdlekpmfaaRows
import Derived.Test.YtgmmdpdlekpmfaaLawTv
import Derived.Test.YtgmmdpdlekpmfaaTwN
import Derived.WalkKit
import Derived.Deep.RegionHeld3
import Derived.Deep.RegionWith
import Derived.Deep.QuietTactic
import Derived.BigQuiet
import Derived.RegionTactic
import Derived.ChangeAlike
import Derived.BigRegion
import Derived.ProofKit
import Derived.OpenShut
import Derived.ShutString
import Derived.ChangeOld
import Derived.Below
import Derived.Lib.SmallJoins
namespace Go.Proofs.Ytgmmdpdlekpmfaa.fnExactNewTown
open Go.ChangeShapes Go.WideShapes Go.ChangeAt Go.RowKit Go.Joins
open Go.ChangeMaps (open_string shut_string)
set_option linter.unusedVariables false
set_option linter.unusedSimpArgs false

theorem own : ownKnob Try.prog.godebug = none := by kernel_rfl
theorem laidOut : laidOutB Try.prog = true := by kernel_rfl

set_option maxRecDepth 100000 in
set_option maxHeartbeats 8000000 in
theorem walk (a0 : Int) (a1 : Int) (a2 : Int) (w : World) (w0 : (Lit.int .i64 a0).wf = true) (w1 : (Lit.int .i64 a1).wf = true) (w2 : (Lit.int .i64 a2).wf = true) :
    Calls Try.prog 5 #[.int .i64 a0, .int .i64 a1, .int .i64 a2] w fun e w' => e = .returned (.bool true) ∧ Below w.heap.size w w' := by
  have B := Below.refl w.heap.size w
  have n1 := newT_small a0 a1 a2
  have CS := Lib.hid (fun W => sNewTown a0 a1 a2 W)
  have CI := Lib.hid (fun W => iNewTown a0 a1 a2 W)
  obtain ⟨R, hR⟩ : ∃ R, newT a0 a1 a2 = R := ⟨_, rfl⟩
  rw [hR] at CS CI n1
  clear hR
  obtain ⟨hsR, tsR, nsR, rR, hdR, acR, rtR, tmR, lsR, cmR⟩ := R
  dsimp only at n1
  obtain ⟨z1, z2, z3, z4⟩ := n1
  obtain ⟨N, hN⟩ : ∃ N : Nat, mkN ⟨hsR, tsR, nsR, rR, hdR, acR, rtR, tmR, lsR, cmR⟩ = N := ⟨_, rfl⟩
  have HN := Lib.hid hN
  have hNle : N ≤ 100 := by rw [← hN]; unfold mkN; dsimp only; omega
  have g1 : decide ((1 : Int) + (N : Int) < 0) = false := decide_eq_false (by omega)
  have hNn : ((1 : Int) + (N : Int) != 1 + (N : Int)) = false := by simp
  clear hN z1 z2 z3 z4
  go_enter Try.func5, Try.ntmps5
  go_wp2_with fail
  refine (CS.out _).mono ?_
  intro e u1 h_
  obtain ⟨a1_1, c1_1, a2_1, c2_1, a3_1, c3_1, a4_1, c4_1, rfl, O_1, C⟩ := outTw_lit h_
  replace B := bel_tr B C
  clear h_ C
  have CA := (Below.refl _ u1).alloc (Nat.le_refl _) (.cells #[.slice a1_1 hsR.length c1_1, .slice a2_1 tsR.length c2_1, .slice a3_1 nsR.length c3_1, .int .i64 rR, .int .i64 hdR, .slice a4_1 acR.length c4_1, .int .i64 rtR, .int .i64 tmR, .int .i64 lsR, .int .i64 cmR] 38)
  replace O_1 := O_1.next CA
  have B0s := B.size
  have K1 := Blk.new u1 38 #[.slice a1_1 hsR.length c1_1, .slice a2_1 tsR.length c2_1, .slice a3_1 nsR.length c3_1, .int .i64 rR, .int .i64 hdR, .slice a4_1 acR.length c4_1, .int .i64 rtR, .int .i64 tmR, .int .i64 lsR, .int .i64 cmR]
  replace B := bel_tr B CA
  have hz1 : u1.heap.size < (u1.alloc (.cells #[.slice a1_1 hsR.length c1_1, .slice a2_1 tsR.length c2_1, .slice a3_1 nsR.length c3_1, .int .i64 rR, .int .i64 hdR, .slice a4_1 acR.length c4_1, .int .i64 rtR, .int .i64 tmR, .int .i64 lsR, .int .i64 cmR] 38)).heap.size := by simp
  obtain ⟨q1_0, q1_1, q1_2, q1_3, q1_4, q1_5, q1_6, q1_7, q1_8, q1_9⟩ := town_cells K1
  go_wp2_with fail
  generalize u1.alloc (.cells #[.slice a1_1 hsR.length c1_1, .slice a2_1 tsR.length c2_1, .slice a3_1 nsR.length c3_1, .int .i64 rR, .int .i64 hdR, .slice a4_1 acR.length c4_1, .int .i64 rtR, .int .i64 tmR, .int .i64 lsR, .int .i64 cmR] 38) = u2 at B CA K1 O_1 q1_0 q1_1 q1_2 q1_3 q1_4 q1_5 q1_6 q1_7 q1_8 q1_9 hz1 ⊢
  clear CA
  have I1 := O_1.is
  have D := Below.refl u2.heap.size u2
  have K1b := K1
  have hU1 := K1.lt
  have hwU : w.heap.size < u2.heap.size := Nat.lt_of_le_of_lt B0s hU1
  clear O_1
  refine (CI.out _).mono ?_
  intro e u3 h_
  obtain ⟨a1_2, c1_2, a2_2, c2_2, a3_2, c3_2, a4_2, c4_2, rfl, O_2, C⟩ := outTw_lit h_
  clear q1_0 q1_1 q1_2 q1_3 q1_4 q1_5 q1_6 q1_7 q1_8 q1_9
  replace K1 := K1.next C
  replace D := bel_tr D C
  replace B := bel_tr B C
  clear h_ C
  replace K1 := K1.alloc (.cells #[.slice a1_2 hsR.length c1_2, .slice a2_2 tsR.length c2_2, .slice a3_2 nsR.length c3_2, .int .i64 rR, .int .i64 hdR, .slice a4_2 acR.length c4_2, .int .i64 rtR, .int .i64 tmR, .int .i64 lsR, .int .i64 cmR] 38)
  have CA := (Below.refl _ u3).alloc (Nat.le_refl _) (.cells #[.slice a1_2 hsR.length c1_2, .slice a2_2 tsR.length c2_2, .slice a3_2 nsR.length c3_2, .int .i64 rR, .int .i64 hdR, .slice a4_2 acR.length c4_2, .int .i64 rtR, .int .i64 tmR, .int .i64 lsR, .int .i64 cmR] 38)
  replace D := bel_tr D CA
  replace O_2 := O_2.next CA
  have K2 := Blk.new u3 38 #[.slice a1_2 hsR.length c1_2, .slice a2_2 tsR.length c2_2, .slice a3_2 nsR.length c3_2, .int .i64 rR, .int .i64 hdR, .slice a4_2 acR.length c4_2, .int .i64 rtR, .int .i64 tmR, .int .i64 lsR, .int .i64 cmR]
  replace B := bel_tr B CA
  have hz2 : u3.heap.size < (u3.alloc (.cells #[.slice a1_2 hsR.length c1_2, .slice a2_2 tsR.length c2_2, .slice a3_2 nsR.length c3_2, .int .i64 rR, .int .i64 hdR, .slice a4_2 acR.length c4_2, .int .i64 rtR, .int .i64 tmR, .int .i64 lsR, .int .i64 cmR] 38)).heap.size := by simp
  obtain ⟨q1_0, q1_1, q1_2, q1_3, q1_4, q1_5, q1_6, q1_7, q1_8, q1_9⟩ := town_cells K1
  obtain ⟨q2_0, q2_1, q2_2, q2_3, q2_4, q2_5, q2_6, q2_7, q2_8, q2_9⟩ := town_cells K2
  go_wp2_with fail
  generalize u3.alloc (.cells #[.slice a1_2 hsR.length c1_2, .slice a2_2 tsR.length c2_2, .slice a3_2 nsR.length c3_2, .int .i64 rR, .int .i64 hdR, .slice a4_2 acR.length c4_2, .int .i64 rtR, .int .i64 tmR, .int .i64 lsR, .int .i64 cmR] 38) = u4 at B CA K1 K2 D O_2 q1_0 q1_1 q1_2 q1_3 q1_4 q1_5 q1_6 q1_7 q1_8 q1_9 q2_0 q2_1 q2_2 q2_3 q2_4 q2_5 q2_6 q2_7 q2_8 q2_9 hz2 ⊢
  clear CA
  refine (leqTw ⟨a1_2, c1_2, a2_2, c2_2, a3_2, c3_2, a4_2, c4_2⟩ ⟨a1_1, c1_1, a2_1, c2_1, a3_1, c3_1, a4_1, c4_1⟩ ⟨hsR, tsR, nsR, rR, hdR, acR, rtR, tmR, lsR, cmR⟩ _ O_2.is (tw_below I1 D)).mono ?_
  rintro e u5 ⟨rfl, C⟩
  clear q1_0 q1_1 q1_2 q1_3 q1_4 q1_5 q1_6 q1_7 q1_8 q1_9 q2_0 q2_1 q2_2 q2_3 q2_4 q2_5 q2_6 q2_7 q2_8 q2_9
  replace K1 := K1.next C
  replace K2 := K2.next C
  replace D := bel_tr D C
  replace O_2 := O_2.next C
  replace B := bel_tr B C
  clear C
  obtain ⟨q2_0, q2_1, q2_2, q2_3, q2_4, q2_5, q2_6, q2_7, q2_8, q2_9⟩ := town_cells K2
  go_wp2_with fail
  clear q2_0 q2_1 q2_2 q2_3 q2_4 q2_5 q2_6 q2_7 q2_8 q2_9
  refine (mkTw ⟨a1_2, c1_2, a2_2, c2_2, a3_2, c3_2, a4_2, c4_2⟩ ⟨hsR, tsR, nsR, rR, hdR, acR, rtR, tmR, lsR, cmR⟩ _ 1 _ O_2 (by omega) (by omega)).mono ?_
  rintro e u6 ⟨rfl, M, G⟩
  rw [HN.out]
  have OG := fun q (hq : TA.own ⟨a1_2, c1_2, a2_2, c2_2, a3_2, c3_2, a4_2, c4_2⟩ q) => O_2.own_ge hq
  replace K2 := K2.off G (O_2.not_own K2)
  replace D := OffW.below D G (fun q hq => (OG q hq).1)
  replace B := OffW.below B G (fun q hq => Nat.le_trans (Nat.le_of_lt hwU) (OG q hq).1)
  replace K1 := K1b.below D hU1
  clear OG G O_2
  obtain ⟨q2_0, q2_1, q2_2, q2_3, q2_4, q2_5, q2_6, q2_7, q2_8, q2_9⟩ := town_cells K2
  go_wp2_with fail
  refine (hkTw ⟨a1_2, c1_2, a2_2, c2_2, a3_2, c3_2, a4_2, c4_2⟩ ⟨hsR, tsR, nsR, rR, hdR, acR, rtR, tmR, lsR, cmR⟩ _ 1 _ M (by omega) (by omega)).mono ?_
  rintro e u7 ⟨rfl, C⟩
  clear q2_0 q2_1 q2_2 q2_3 q2_4 q2_5 q2_6 q2_7 q2_8 q2_9
  replace K1 := K1.next C
  replace K2 := K2.next C
  replace D := bel_tr D C
  replace M := M.next C
  replace B := bel_tr B C
  clear C
  rw [HN.out]
  obtain ⟨q2_0, q2_1, q2_2, q2_3, q2_4, q2_5, q2_6, q2_7, q2_8, q2_9⟩ := town_cells K2
  go_wp2_with fail
  refine (CI.out _).mono ?_
  intro e u8 h_
  obtain ⟨a1_3, c1_3, a2_3, c2_3, a3_3, c3_3, a4_3, c4_3, rfl, O_3, C⟩ := outTw_lit h_
  clear q2_0 q2_1 q2_2 q2_3 q2_4 q2_5 q2_6 q2_7 q2_8 q2_9
  replace K1 := K1.next C
  replace K2 := K2.next C
  replace D := bel_tr D C
  replace M := M.next C
  replace B := bel_tr B C
  clear h_ C
  replace K1 := K1.alloc (.cells #[.slice a1_3 hsR.length c1_3, .slice a2_3 tsR.length c2_3, .slice a3_3 nsR.length c3_3, .int .i64 rR, .int .i64 hdR, .slice a4_3 acR.length c4_3, .int .i64 rtR, .int .i64 tmR, .int .i64 lsR, .int .i64 cmR] 38)
  replace K2 := K2.alloc (.cells #[.slice a1_3 hsR.length c1_3, .slice a2_3 tsR.length c2_3, .slice a3_3 nsR.length c3_3, .int .i64 rR, .int .i64 hdR, .slice a4_3 acR.length c4_3, .int .i64 rtR, .int .i64 tmR, .int .i64 lsR, .int .i64 cmR] 38)
  have CA := (Below.refl _ u8).alloc (Nat.le_refl _) (.cells #[.slice a1_3 hsR.length c1_3, .slice a2_3 tsR.length c2_3, .slice a3_3 nsR.length c3_3, .int .i64 rR, .int .i64 hdR, .slice a4_3 acR.length c4_3, .int .i64 rtR, .int .i64 tmR, .int .i64 lsR, .int .i64 cmR] 38)
  replace D := bel_tr D CA
  replace M := M.next CA
  replace O_3 := O_3.next CA
  have K3 := Blk.new u8 38 #[.slice a1_3 hsR.length c1_3, .slice a2_3 tsR.length c2_3, .slice a3_3 nsR.length c3_3, .int .i64 rR, .int .i64 hdR, .slice a4_3 acR.length c4_3, .int .i64 rtR, .int .i64 tmR, .int .i64 lsR, .int .i64 cmR]
  replace B := bel_tr B CA
  have hz3 : u8.heap.size < (u8.alloc (.cells #[.slice a1_3 hsR.length c1_3, .slice a2_3 tsR.length c2_3, .slice a3_3 nsR.length c3_3, .int .i64 rR, .int .i64 hdR, .slice a4_3 acR.length c4_3, .int .i64 rtR, .int .i64 tmR, .int .i64 lsR, .int .i64 cmR] 38)).heap.size := by simp
  obtain ⟨q1_0, q1_1, q1_2, q1_3, q1_4, q1_5, q1_6, q1_7, q1_8, q1_9⟩ := town_cells K1
  obtain ⟨q3_0, q3_1, q3_2, q3_3, q3_4, q3_5, q3_6, q3_7, q3_8, q3_9⟩ := town_cells K3
  go_wp2_with fail
  generalize u8.alloc (.cells #[.slice a1_3 hsR.length c1_3, .slice a2_3 tsR.length c2_3, .slice a3_3 nsR.length c3_3, .int .i64 rR, .int .i64 hdR, .slice a4_3 acR.length c4_3, .int .i64 rtR, .int .i64 tmR, .int .i64 lsR, .int .i64 cmR] 38) = u9 at B CA K1 K2 K3 D M O_3 q1_0 q1_1 q1_2 q1_3 q1_4 q1_5 q1_6 q1_7 q1_8 q1_9 q3_0 q3_1 q3_2 q3_3 q3_4 q3_5 q3_6 q3_7 q3_8 q3_9 hz3 ⊢
  clear CA
  refine (leqTw ⟨a1_3, c1_3, a2_3, c2_3, a3_3, c3_3, a4_3, c4_3⟩ ⟨a1_1, c1_1, a2_1, c2_1, a3_1, c3_1, a4_1, c4_1⟩ ⟨hsR, tsR, nsR, rR, hdR, acR, rtR, tmR, lsR, cmR⟩ _ O_3.is (tw_below I1 D)).mono ?_
  rintro e u10 ⟨rfl, C⟩
  clear q1_0 q1_1 q1_2 q1_3 q1_4 q1_5 q1_6 q1_7 q1_8 q1_9 q3_0 q3_1 q3_2 q3_3 q3_4 q3_5 q3_6 q3_7 q3_8 q3_9
  replace K1 := K1.next C
  replace K2 := K2.next C
  replace K3 := K3.next C
  replace D := bel_tr D C
  replace M := M.next C
  replace O_3 := O_3.next C
  replace B := bel_tr B C
  clear C
  obtain ⟨q2_0, q2_1, q2_2, q2_3, q2_4, q2_5, q2_6, q2_7, q2_8, q2_9⟩ := town_cells K2
  go_wp2_with fail
  refine (hkTw ⟨a1_2, c1_2, a2_2, c2_2, a3_2, c3_2, a4_2, c4_2⟩ ⟨hsR, tsR, nsR, rR, hdR, acR, rtR, tmR, lsR, cmR⟩ _ 1 _ M (by omega) (by omega)).mono ?_
  rintro e u11 ⟨rfl, C⟩
  clear q2_0 q2_1 q2_2 q2_3 q2_4 q2_5 q2_6 q2_7 q2_8 q2_9
  replace K1 := K1.next C
  replace K2 := K2.next C
  replace K3 := K3.next C
  replace D := bel_tr D C
  replace M := M.next C
  replace O_3 := O_3.next C
  replace B := bel_tr B C
  clear C
  rw [HN.out]
  go_wp2_with fail
  go_ret
  exact ⟨rfl, B⟩

set_option maxRecDepth 100000 in
theorem lifted (os : Os) (started : os.Started) (H : Type) (enc : TypeId × Value → H) :
    ReturnsInHanded {} Try.checked os 5 .any (Rows.fnExactNewTownSpec.pre6 enc Try.prog Try.f5 Rows.fnExactNewTownRow.domain false) (Rows.fnExactNewTownSpec.post enc Try.prog Try.f5 false true false false) := by
  refine returnsInHanded_of_change (C := Try.checked) own started (by kernel_rfl) Try.func5
    (ChangeSpec.witness6 (enc := enc) (C := Try.checked) false ⟨#[], #[.int .i64 0, .int .i64 0, .int .i64 0], []⟩ 8 (by kernel_rfl) (by kernel_rfl) (by kernel_rfl) (by kernel_rfl)) ?_
  intro W base args ds gs before hval0 hW hcnd _
  have hval : ∀ (j : Nat) t v, Try.f5.params[j]? = some t → args[j]? = some v → Value.okWide Try.prog W .any base t v := hval0
  have hW' := hW
  obtain ⟨p, q, hA0, hV, rfl, hfz, hnd⟩ := hW
  have hA : DataW.TrodAll enc Try.prog W 0 (fun _ => true) true Try.f5.params.toList args.toList ds p := hA0
  rw [Try.params5] at hA hval
  obtain ⟨v0, vs0, e0, es0, p0, q0, hargs, rfl, rfl, h0, r0⟩ := trodAll_cons hA
  obtain ⟨v1, vs1, e1, es1, p1, q1, rfl, rfl, rfl, h1, r1⟩ := trodAll_cons r0
  obtain ⟨v2, vs2, e2, es2, p2, q2, rfl, rfl, rfl, h2, r2⟩ := trodAll_cons r1
  obtain ⟨rfl, rfl, rfl⟩ := trodAll_nil r2
  obtain rfl : args = #[v0, v1, v2] := by cases args; simp_all
  obtain ⟨rfl, rfl⟩ := trodVars_none hV
  have k0 := h0
  have lt0 : ∀ x ∈ p0, x.block < W.heap.size := by obtain ⟨m, hm⟩ := k0; exact DataW.trod_lt m _ _ _ hm
  obtain ⟨a0, rfl, _, _, w0⟩ := open_int Try.underlying3 (hval 0 3 v0 rfl rfl) h0
  have k1 := h1
  have lt1 : ∀ x ∈ p1, x.block < W.heap.size := by obtain ⟨m, hm⟩ := k1; exact DataW.trod_lt m _ _ _ hm
  obtain ⟨a1, rfl, _, _, w1⟩ := open_int Try.underlying3 (hval 1 3 v1 rfl rfl) h1
  have k2 := h2
  have lt2 : ∀ x ∈ p2, x.block < W.heap.size := by obtain ⟨m, hm⟩ := k2; exact DataW.trod_lt m _ _ _ hm
  obtain ⟨a2, rfl, _, _, w2⟩ := open_int Try.underlying3 (hval 2 3 v2 rfl rfl) h2
  clear hA0 hval0
  refine (walk a0 a1 a2 W w0 w1 w2).mono fun e W' ⟨he, bel⟩ => ?_
  subst he
  exact ⟨_, rfl, _, _, _, [], _, [], hW', trodAll_mk1 (shut_bool Try.underlying4 _), (trodAll_cons_mk (Below.trod laidOut (by kernel_rfl) (of_decide_eq_true (by kernel_rfl)) k0 bel lt0) (trodAll_cons_mk (Below.trod laidOut (by kernel_rfl) (of_decide_eq_true (by kernel_rfl)) k1 bel lt1) (trodAll_cons_mk (Below.trod laidOut (by kernel_rfl) (of_decide_eq_true (by kernel_rfl)) k2 bel lt2) trodAll_mk0))), rfl, bel.frame _, fun h => by cases h⟩

theorem over : Rows.fnExactNewTownRow.holds Try.pinned (OpenSpec.ofChange Rows.fnExactNewTownSpec) :=
  OpenClaim.holds_of_wide 5 Try.f5 rfl rfl rfl rfl rfl rfl rfl ⟨rfl, rfl, rfl, rfl, rfl⟩ rfl rfl rfl rfl rfl (by kernel_rfl) Try.func5 (by kernel_rfl)
    (of_decide_eq_true (by kernel_rfl)) (by unfold Func.isWrapper; first | (rw [if_pos (by decide +kernel)]; kernel_rfl) | (rw [if_neg (by decide +kernel)]; exact ⟨rfl, rfl⟩))
    (fun os started H enc _ => lifted os started H enc)

end Go.Proofs.Ytgmmdpdlekpmfaa.fnExactNewTown
namespace Go.Proofs.Ytgmmdpdlekpmfaa
/-- the statement -/
theorem fnExactNewTown_holds : Rows.FnExactNewTownSaid := fnExactNewTown.over
end Go.Proofs.Ytgmmdpdlekpmfaa
