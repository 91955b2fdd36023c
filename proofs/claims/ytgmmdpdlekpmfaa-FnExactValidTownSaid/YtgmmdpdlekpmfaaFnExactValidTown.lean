/- For every input the law answers true, and its arguments read afterwards as before: impl.ValidTown answers as its model. No condition. -/
import Derived.Test.YtgmmdpdlekpmfaaRows
import Derived.Test.YtgmmdpdlekpmfaaOpTw
import Derived.Test.YtgmmdpdlekpmfaaLawTv
import Derived.Test.YtgmmdpdlekpmfaaTwU
import Derived.WalkKit
import Derived.Deep.RegionHeld3
import Derived.Deep.RegionWith
import Derived.Deep.QuietTactic
import Derived.BigQuiet
import Derived.RegionTactic
import Derived.ChangeAlike
import Derived.BigRegion
import Derived.ProofKit
import Derived.OpenShut
import Derived.ShutString
import Derived.ChangeOld
import Derived.Below
import Derived.Lib.SmallJoins
namespace Go.Proofs.Ytgmmdpdlekpmfaa.fnExactValidTown
open Go.ChangeShapes Go.WideShapes Go.ChangeAt Go.RowKit Go.Joins
open Go.ChangeMaps (open_string shut_string)
set_option linter.unusedVariables false
set_option linter.unusedSimpArgs false

theorem own : ownKnob Try.prog.godebug = none := by kernel_rfl
theorem laidOut : laidOutB Try.prog = true := by kernel_rfl

set_option maxRecDepth 100000 in
set_option maxHeartbeats 8000000 in
theorem walk (pa0 : TA) (tw0 : Tw) (w : World) (w0 : TwIn w pa0 tw0) :
    Calls Try.prog 3 #[twV pa0 tw0] w fun e w' => e = .returned (.bool true) ∧ Below w.heap.size w w' := by
  obtain ⟨a1_0, c1_0, a2_0, c2_0, a3_0, c3_0, a4_0, c4_0⟩ := pa0
  obtain ⟨hs, ts, ns, r, hd, ac, rt, tm, ls, cm⟩ := tw0
  have wi := w0
  obtain ⟨h1, h2, h3, h4, k1, k2, k3, k4, m1, m2, m3, m4⟩ := w0
  dsimp only at k1 k2 k3 k4 m1 m2 m3 m4
  have l1 : hs.length ≤ 9223372036854775807 := by unfold maxLen at m1; omega
  have l2 : ts.length ≤ 9223372036854775807 := by unfold maxLen at m2; omega
  have l3 : ns.length ≤ 9223372036854775807 := by unfold maxLen at m3; omega
  have l4 : ac.length ≤ 9223372036854775807 := by unfold maxLen at m4; omega
  clear h1 h2 h3 h4 k1 k2 k3 k4 m1 m2 m3 m4
  have CZ := Lib.hid (fun W => lszTw ⟨a1_0, c1_0, a2_0, c2_0, a3_0, c3_0, a4_0, c4_0⟩ ⟨hs, ts, ns, r, hd, ac, rt, tm, ls, cm⟩ 1048576 W (by omega) (by omega) l1 l2 l3 l4)
  change Calls _ _ #[.agg #[.slice a1_0 hs.length c1_0, .slice a2_0 ts.length c2_0, .slice a3_0 ns.length c3_0, .int .i64 r, .int .i64 hd, .slice a4_0 ac.length c4_0, .int .i64 rt, .int .i64 tm, .int .i64 ls, .int .i64 cm]] _ _
  have B := (Below.refl w.heap.size w).alloc (Nat.le_refl _) (.cells #[.slice a1_0 hs.length c1_0, .slice a2_0 ts.length c2_0, .slice a3_0 ns.length c3_0, .int .i64 r, .int .i64 hd, .slice a4_0 ac.length c4_0, .int .i64 rt, .int .i64 tm, .int .i64 ls, .int .i64 cm] 29)
  have K0 := Blk.new w 29 #[.slice a1_0 hs.length c1_0, .slice a2_0 ts.length c2_0, .slice a3_0 ns.length c3_0, .int .i64 r, .int .i64 hd, .slice a4_0 ac.length c4_0, .int .i64 rt, .int .i64 tm, .int .i64 ls, .int .i64 cm]
  have hz0 : w.heap.size < (w.alloc (.cells #[.slice a1_0 hs.length c1_0, .slice a2_0 ts.length c2_0, .slice a3_0 ns.length c3_0, .int .i64 r, .int .i64 hd, .slice a4_0 ac.length c4_0, .int .i64 rt, .int .i64 tm, .int .i64 ls, .int .i64 cm] 29)).heap.size := by simp
  by_cases big : (1048576 : Int) < (hs.length : Int) + ts.length + ns.length + ac.length
  · have hZ : szT ⟨hs, ts, ns, r, hd, ac, rt, tm, ls, cm⟩ 1048576 = -1 := by unfold szT; dsimp only; rw [if_pos big]
    rw [hZ] at CZ
    clear hZ big l1 l2 l3 l4
    obtain ⟨q0_0, q0_1, q0_2, q0_3, q0_4, q0_5, q0_6, q0_7, q0_8, q0_9⟩ := town_cells K0
    go_enter Try.func3, Try.ntmps3
    go_wp2_with fail
    refine (CZ.out _).mono ?_
    rintro e u ⟨rfl, C⟩
    replace B := bel_tr B C
    go_wp2_with fail
    go_ret
    exact ⟨rfl, B⟩
  have hI : IsTw w ⟨a1_0, c1_0, a2_0, c2_0, a3_0, c3_0, a4_0, c4_0⟩ ⟨hs, ts, ns, r, hd, ac, rt, tm, ls, cm⟩ := wi.is (by dsimp only; omega) (by dsimp only; omega) (by dsimp only; omega) (by dsimp only; omega)
  have HI := Lib.hid (fun W (hW : Below w.heap.size w W) => tw_below hI hW)
  obtain ⟨z, hZ⟩ : ∃ z, szT ⟨hs, ts, ns, r, hd, ac, rt, tm, ls, cm⟩ 1048576 = z := ⟨_, rfl⟩
  have hz : 0 ≤ z := by rw [← hZ]; unfold szT; dsimp only; rw [if_neg big]; omega
  rw [hZ] at CZ
  clear hZ big l1 l2 l3 l4 hI wi
  have d0 : decide (z < 0) = false := decide_eq_false (by omega)
  clear hz
  obtain ⟨V, hV⟩ : ∃ V, twB ⟨hs, ts, ns, r, hd, ac, rt, tm, ls, cm⟩ = V := ⟨_, rfl⟩
  have CS := Lib.hid (fun (p : TA) W (h : IsTw W p ⟨hs, ts, ns, r, hd, ac, rt, tm, ls, cm⟩) => sVTw p ⟨hs, ts, ns, r, hd, ac, rt, tm, ls, cm⟩ W h)
  have CI := Lib.hid (fun (p : TA) W (h : IsTw W p ⟨hs, ts, ns, r, hd, ac, rt, tm, ls, cm⟩) => iVTw p ⟨hs, ts, ns, r, hd, ac, rt, tm, ls, cm⟩ W h)
  rw [hV] at CS CI
  clear hV
  have e0 : (V != V) = false := by cases V <;> rfl
  have e0b : (V == V) = true := by cases V <;> rfl
  go_enter Try.func3, Try.ntmps3
  obtain ⟨q0_0, q0_1, q0_2, q0_3, q0_4, q0_5, q0_6, q0_7, q0_8, q0_9⟩ := town_cells K0
  go_wp2_with fail
  generalize w.alloc (.cells #[.slice a1_0 hs.length c1_0, .slice a2_0 ts.length c2_0, .slice a3_0 ns.length c3_0, .int .i64 r, .int .i64 hd, .slice a4_0 ac.length c4_0, .int .i64 rt, .int .i64 tm, .int .i64 ls, .int .i64 cm] 29) = u0 at B K0 hz0 q0_0 q0_1 q0_2 q0_3 q0_4 q0_5 q0_6 q0_7 q0_8 q0_9 ⊢
  refine (CZ.out _).mono ?_
  rintro e u1 ⟨rfl, C⟩
  clear q0_0 q0_1 q0_2 q0_3 q0_4 q0_5 q0_6 q0_7 q0_8 q0_9
  replace K0 := K0.next C
  replace B := bel_tr B C
  clear C
  obtain ⟨q0_0, q0_1, q0_2, q0_3, q0_4, q0_5, q0_6, q0_7, q0_8, q0_9⟩ := town_cells K0
  go_wp2_with fail
  refine (ltoTw ⟨a1_0, c1_0, a2_0, c2_0, a3_0, c3_0, a4_0, c4_0⟩ ⟨hs, ts, ns, r, hd, ac, rt, tm, ls, cm⟩ _ (HI.out _ B)).mono ?_
  intro e u2 h_
  obtain ⟨a1_1, c1_1, a2_1, c2_1, a3_1, c3_1, a4_1, c4_1, rfl, O_1, C⟩ := outTw_lit h_
  clear q0_0 q0_1 q0_2 q0_3 q0_4 q0_5 q0_6 q0_7 q0_8 q0_9
  replace K0 := K0.next C
  replace B := bel_tr B C
  clear h_ C
  go_wp2_with fail
  refine (CS.out ⟨a1_1, c1_1, a2_1, c2_1, a3_1, c3_1, a4_1, c4_1⟩ _ O_1.is).mono ?_
  rintro e u3 ⟨rfl, C⟩
  replace K0 := K0.next C
  replace O_1 := O_1.next C
  replace B := bel_tr B C
  clear C
  obtain ⟨q0_0, q0_1, q0_2, q0_3, q0_4, q0_5, q0_6, q0_7, q0_8, q0_9⟩ := town_cells K0
  clear O_1
  go_wp2_with fail
  refine (ltoTw ⟨a1_0, c1_0, a2_0, c2_0, a3_0, c3_0, a4_0, c4_0⟩ ⟨hs, ts, ns, r, hd, ac, rt, tm, ls, cm⟩ _ (HI.out _ B)).mono ?_
  intro e u4 h_
  obtain ⟨a1_2, c1_2, a2_2, c2_2, a3_2, c3_2, a4_2, c4_2, rfl, O_2, C⟩ := outTw_lit h_
  clear q0_0 q0_1 q0_2 q0_3 q0_4 q0_5 q0_6 q0_7 q0_8 q0_9
  replace K0 := K0.next C
  replace B := bel_tr B C
  clear h_ C
  replace K0 := K0.alloc (.cells #[.slice a1_2 hs.length c1_2, .slice a2_2 ts.length c2_2, .slice a3_2 ns.length c3_2, .int .i64 r, .int .i64 hd, .slice a4_2 ac.length c4_2, .int .i64 rt, .int .i64 tm, .int .i64 ls, .int .i64 cm] 38)
  have CA := (Below.refl _ u4).alloc (Nat.le_refl _) (.cells #[.slice a1_2 hs.length c1_2, .slice a2_2 ts.length c2_2, .slice a3_2 ns.length c3_2, .int .i64 r, .int .i64 hd, .slice a4_2 ac.length c4_2, .int .i64 rt, .int .i64 tm, .int .i64 ls, .int .i64 cm] 38)
  replace O_2 := O_2.next CA
  have K2 := Blk.new u4 38 #[.slice a1_2 hs.length c1_2, .slice a2_2 ts.length c2_2, .slice a3_2 ns.length c3_2, .int .i64 r, .int .i64 hd, .slice a4_2 ac.length c4_2, .int .i64 rt, .int .i64 tm, .int .i64 ls, .int .i64 cm]
  replace B := bel_tr B CA
  have hz2 : u4.heap.size < (u4.alloc (.cells #[.slice a1_2 hs.length c1_2, .slice a2_2 ts.length c2_2, .slice a3_2 ns.length c3_2, .int .i64 r, .int .i64 hd, .slice a4_2 ac.length c4_2, .int .i64 rt, .int .i64 tm, .int .i64 ls, .int .i64 cm] 38)).heap.size := by simp
  obtain ⟨q0_0, q0_1, q0_2, q0_3, q0_4, q0_5, q0_6, q0_7, q0_8, q0_9⟩ := town_cells K0
  obtain ⟨q2_0, q2_1, q2_2, q2_3, q2_4, q2_5, q2_6, q2_7, q2_8, q2_9⟩ := town_cells K2
  go_wp2_with fail
  generalize u4.alloc (.cells #[.slice a1_2 hs.length c1_2, .slice a2_2 ts.length c2_2, .slice a3_2 ns.length c3_2, .int .i64 r, .int .i64 hd, .slice a4_2 ac.length c4_2, .int .i64 rt, .int .i64 tm, .int .i64 ls, .int .i64 cm] 38) = u5 at B CA K0 K2 O_2 q0_0 q0_1 q0_2 q0_3 q0_4 q0_5 q0_6 q0_7 q0_8 q0_9 q2_0 q2_1 q2_2 q2_3 q2_4 q2_5 q2_6 q2_7 q2_8 q2_9 hz2 ⊢
  clear CA
  refine (CI.out ⟨a1_2, c1_2, a2_2, c2_2, a3_2, c3_2, a4_2, c4_2⟩ _ O_2.is).mono ?_
  rintro e u6 ⟨rfl, C⟩
  clear q0_0 q0_1 q0_2 q0_3 q0_4 q0_5 q0_6 q0_7 q0_8 q0_9 q2_0 q2_1 q2_2 q2_3 q2_4 q2_5 q2_6 q2_7 q2_8 q2_9
  replace K0 := K0.next C
  replace K2 := K2.next C
  replace O_2 := O_2.next C
  replace B := bel_tr B C
  clear C
  obtain ⟨q0_0, q0_1, q0_2, q0_3, q0_4, q0_5, q0_6, q0_7, q0_8, q0_9⟩ := town_cells K0
  obtain ⟨q2_0, q2_1, q2_2, q2_3, q2_4, q2_5, q2_6, q2_7, q2_8, q2_9⟩ := town_cells K2
  go_wp2_with fail
  have I2 := O_2.is
  clear O_2
  have HMK1 := Lib.hid (fun (W : World) (hW : Below u6.heap.size u6 W) => (⟨⟨(hW.cell (p := ⟨w.heap.size, 0, none⟩) (K0.lt)).trans q0_0, (hW.cell (p := ⟨w.heap.size, 1, none⟩) (K0.lt)).trans q0_1, (hW.cell (p := ⟨w.heap.size, 2, none⟩) (K0.lt)).trans q0_2, (hW.cell (p := ⟨w.heap.size, 3, none⟩) (K0.lt)).trans q0_3, (hW.cell (p := ⟨w.heap.size, 4, none⟩) (K0.lt)).trans q0_4, (hW.cell (p := ⟨w.heap.size, 5, none⟩) (K0.lt)).trans q0_5, (hW.cell (p := ⟨w.heap.size, 6, none⟩) (K0.lt)).trans q0_6, (hW.cell (p := ⟨w.heap.size, 7, none⟩) (K0.lt)).trans q0_7, (hW.cell (p := ⟨w.heap.size, 8, none⟩) (K0.lt)).trans q0_8, (hW.cell (p := ⟨w.heap.size, 9, none⟩) (K0.lt)).trans q0_9, (hW.cell (p := ⟨u4.heap.size, 0, none⟩) (K2.lt)).trans q2_0, (hW.cell (p := ⟨u4.heap.size, 1, none⟩) (K2.lt)).trans q2_1, (hW.cell (p := ⟨u4.heap.size, 2, none⟩) (K2.lt)).trans q2_2, (hW.cell (p := ⟨u4.heap.size, 3, none⟩) (K2.lt)).trans q2_3, (hW.cell (p := ⟨u4.heap.size, 4, none⟩) (K2.lt)).trans q2_4, (hW.cell (p := ⟨u4.heap.size, 5, none⟩) (K2.lt)).trans q2_5, (hW.cell (p := ⟨u4.heap.size, 6, none⟩) (K2.lt)).trans q2_6, (hW.cell (p := ⟨u4.heap.size, 7, none⟩) (K2.lt)).trans q2_7, (hW.cell (p := ⟨u4.heap.size, 8, none⟩) (K2.lt)).trans q2_8, (hW.cell (p := ⟨u4.heap.size, 9, none⟩) (K2.lt)).trans q2_9⟩, hW⟩ : (W.cell? ⟨w.heap.size, 0, none⟩ = some (.slice a1_0 hs.length c1_0) ∧ W.cell? ⟨w.heap.size, 1, none⟩ = some (.slice a2_0 ts.length c2_0) ∧ W.cell? ⟨w.heap.size, 2, none⟩ = some (.slice a3_0 ns.length c3_0) ∧ W.cell? ⟨w.heap.size, 3, none⟩ = some (.int .i64 r) ∧ W.cell? ⟨w.heap.size, 4, none⟩ = some (.int .i64 hd) ∧ W.cell? ⟨w.heap.size, 5, none⟩ = some (.slice a4_0 ac.length c4_0) ∧ W.cell? ⟨w.heap.size, 6, none⟩ = some (.int .i64 rt) ∧ W.cell? ⟨w.heap.size, 7, none⟩ = some (.int .i64 tm) ∧ W.cell? ⟨w.heap.size, 8, none⟩ = some (.int .i64 ls) ∧ W.cell? ⟨w.heap.size, 9, none⟩ = some (.int .i64 cm) ∧ W.cell? ⟨u4.heap.size, 0, none⟩ = some (.slice a1_2 hs.length c1_2) ∧ W.cell? ⟨u4.heap.size, 1, none⟩ = some (.slice a2_2 ts.length c2_2) ∧ W.cell? ⟨u4.heap.size, 2, none⟩ = some (.slice a3_2 ns.length c3_2) ∧ W.cell? ⟨u4.heap.size, 3, none⟩ = some (.int .i64 r) ∧ W.cell? ⟨u4.heap.size, 4, none⟩ = some (.int .i64 hd) ∧ W.cell? ⟨u4.heap.size, 5, none⟩ = some (.slice a4_2 ac.length c4_2) ∧ W.cell? ⟨u4.heap.size, 6, none⟩ = some (.int .i64 rt) ∧ W.cell? ⟨u4.heap.size, 7, none⟩ = some (.int .i64 tm) ∧ W.cell? ⟨u4.heap.size, 8, none⟩ = some (.int .i64 ls) ∧ W.cell? ⟨u4.heap.size, 9, none⟩ = some (.int .i64 cm)) ∧ Below u6.heap.size u6 W))
  refine wp_region_held_drew (S := (fun w' => (w'.cell? ⟨w.heap.size, 0, none⟩ = some (.slice a1_0 hs.length c1_0) ∧ w'.cell? ⟨w.heap.size, 1, none⟩ = some (.slice a2_0 ts.length c2_0) ∧ w'.cell? ⟨w.heap.size, 2, none⟩ = some (.slice a3_0 ns.length c3_0) ∧ w'.cell? ⟨w.heap.size, 3, none⟩ = some (.int .i64 r) ∧ w'.cell? ⟨w.heap.size, 4, none⟩ = some (.int .i64 hd) ∧ w'.cell? ⟨w.heap.size, 5, none⟩ = some (.slice a4_0 ac.length c4_0) ∧ w'.cell? ⟨w.heap.size, 6, none⟩ = some (.int .i64 rt) ∧ w'.cell? ⟨w.heap.size, 7, none⟩ = some (.int .i64 tm) ∧ w'.cell? ⟨w.heap.size, 8, none⟩ = some (.int .i64 ls) ∧ w'.cell? ⟨w.heap.size, 9, none⟩ = some (.int .i64 cm) ∧ w'.cell? ⟨u4.heap.size, 0, none⟩ = some (.slice a1_2 hs.length c1_2) ∧ w'.cell? ⟨u4.heap.size, 1, none⟩ = some (.slice a2_2 ts.length c2_2) ∧ w'.cell? ⟨u4.heap.size, 2, none⟩ = some (.slice a3_2 ns.length c3_2) ∧ w'.cell? ⟨u4.heap.size, 3, none⟩ = some (.int .i64 r) ∧ w'.cell? ⟨u4.heap.size, 4, none⟩ = some (.int .i64 hd) ∧ w'.cell? ⟨u4.heap.size, 5, none⟩ = some (.slice a4_2 ac.length c4_2) ∧ w'.cell? ⟨u4.heap.size, 6, none⟩ = some (.int .i64 rt) ∧ w'.cell? ⟨u4.heap.size, 7, none⟩ = some (.int .i64 tm) ∧ w'.cell? ⟨u4.heap.size, 8, none⟩ = some (.int .i64 ls) ∧ w'.cell? ⟨u4.heap.size, 9, none⟩ = some (.int .i64 cm)) ∧ Below u6.heap.size u6 w')) (by kernel_rfl) ?_ (fun hHeld => ?_)
  · exact ⟨⟨q0_0, q0_1, q0_2, q0_3, q0_4, q0_5, q0_6, q0_7, q0_8, q0_9, q2_0, q2_1, q2_2, q2_3, q2_4, q2_5, q2_6, q2_7, q2_8, q2_9⟩, (Below.refl _ _).drew⟩
  refine wpAnyH_take (i := 0) (oi := ?ooa2_) (v := ?vva2_) ?hia2_ (by kernel_rfl) ?h3a2_ ?h4a2_ ?h5a2_ ?h6a2_ (by assumption) ?h8a2_
  case hia2_ => (simp only [List.getElem?_toArray, List.getElem?_cons_succ, List.getElem?_cons_zero]; rfl)
  case h3a2_ => kernel_rfl
  case h4a2_ => kernel_rfl
  case h6a2_ => (refine Or.inl ⟨by rfl, ?_⟩; intro w hSw; (try dsimp only at hSw); (go_simp <;> with_reducible rfl))
  case h5a2_ => exact fun _ _ _ h => h
  try simp only [Act.put, List.setIfInBounds_toArray, List.set_cons_zero, List.set_cons_succ]
  refine wpAnyH_take (i := 1) (oi := ?ooa3_) (v := ?vva3_) ?hia3_ (by kernel_rfl) ?h3a3_ ?h4a3_ ?h5a3_ ?h6a3_ (by assumption) ?h8a3_
  case hia3_ => (simp only [List.getElem?_toArray, List.getElem?_cons_succ, List.getElem?_cons_zero]; rfl)
  case h3a3_ => kernel_rfl
  case h4a3_ => kernel_rfl
  case h6a3_ => (refine Or.inl ⟨by rfl, ?_⟩; intro w hSw; (try dsimp only at hSw); (go_simp <;> with_reducible rfl))
  case h5a3_ => exact fun _ _ _ h => h
  try simp only [Act.put, List.setIfInBounds_toArray, List.set_cons_zero, List.set_cons_succ]
  refine wpAnyH_ready (rs := [2]) (by kernel_rfl) (by simp) (AllReadyH.cons (o := ?ooa4_q0) ?hia4_q0 (fun K hK => ?hka4_q0) AllReadyH.nil)
  case hia4_q0 => (simp only [List.getElem?_toArray, List.getElem?_cons_succ, List.getElem?_cons_zero]; rfl)
  case hka4_q0 =>
    (rw [if_pos (by rfl)]; go_simp; refine (ltoTw ⟨a1_0, c1_0, a2_0, c2_0, a3_0, c3_0, a4_0, c4_0⟩ ⟨hs, ts, ns, r, hd, ac, rt, tm, ls, cm⟩ _ (HI.out _ (bel_tr B hHeld.2))).mono ?_; rintro e q3_ ⟨⟨a1_3, c1_3, a2_3, c2_3, a3_3, c3_3, a4_3, c4_3⟩, rfl, O_3, hb⟩; have I3 := O_3.is; clear O_3; go_wp2_with fail; refine hK.out _ _ (HMK1.out _ (bel_tr hHeld.2 hb)) (fun hHeld => ?_); clear hK K)
    try simp only [Act.put, List.setIfInBounds_toArray, List.set_cons_zero, List.set_cons_succ]
    refine wpAnyH_ready (rs := [3]) (by kernel_rfl) (by simp) (AllReadyH.cons (o := ?ooa5_q0) ?hia5_q0 (fun K hK => ?hka5_q0) AllReadyH.nil)
    case hia5_q0 => (simp only [List.getElem?_toArray, List.getElem?_cons_succ, List.getElem?_cons_zero]; rfl)
    case hka5_q0 =>
      (rw [if_pos (by rfl)]; go_simp; refine (leqTw ⟨a1_2, c1_2, a2_2, c2_2, a3_2, c3_2, a4_2, c4_2⟩ ⟨a1_3, c1_3, a2_3, c2_3, a3_3, c3_3, a4_3, c4_3⟩ ⟨hs, ts, ns, r, hd, ac, rt, tm, ls, cm⟩ _ (tw_below I2 hHeld.2) I3).mono ?_; rintro e q4_ ⟨rfl, hb⟩; go_wp2_with fail; refine hK.out _ _ (HMK1.out _ (bel_tr hHeld.2 hb)) (fun hHeld => ?_); clear hK K)
      try simp only [Act.put, List.setIfInBounds_toArray, List.set_cons_zero, List.set_cons_succ]
      refine wpAnyH_take (i := 4) (oi := ?ooa6_) (v := ?vva6_) ?hia6_ (by kernel_rfl) ?h3a6_ ?h4a6_ ?h5a6_ ?h6a6_ (by assumption) ?h8a6_
      case hia6_ => (simp only [List.getElem?_toArray, List.getElem?_cons_succ, List.getElem?_cons_zero]; rfl)
      case h3a6_ => kernel_rfl
      case h4a6_ => kernel_rfl
      case h6a6_ => (refine Or.inl ⟨by rfl, ?_⟩; intro w hSw; (try dsimp only at hSw); (go_simp <;> with_reducible rfl))
      case h5a6_ => exact fun _ _ _ h => h
      try simp only [Act.put, List.setIfInBounds_toArray, List.set_cons_zero, List.set_cons_succ]
      refine wpAnyH_done (by kernel_rfl) ?_ _
      clear HMK1
      have B2 := bel_tr B hHeld.2
      clear hHeld
      go_wp2_with fail
      go_ret
      exact ⟨rfl, B2⟩

set_option maxRecDepth 100000 in
theorem lifted (os : Os) (started : os.Started) (H : Type) (enc : TypeId × Value → H) :
    ReturnsInHanded {} Try.checked os 3 .any (Rows.fnExactValidTownSpec.pre6 enc Try.prog Try.f3 Rows.fnExactValidTownRow.domain false) (Rows.fnExactValidTownSpec.post enc Try.prog Try.f3 false true false false) := by
  refine returnsInHanded_of_change (C := Try.checked) own started (by kernel_rfl) Try.func3
    (ChangeSpec.witness6 (enc := enc) (C := Try.checked) false ⟨#[], #[.agg #[.slice none 0 0, .slice none 0 0, .slice none 0 0, .int .i64 0, .int .i64 0, .slice none 0 0, .int .i64 0, .int .i64 0, .int .i64 0, .int .i64 0]], []⟩ 8 (by kernel_rfl) (by kernel_rfl) (by kernel_rfl) (by kernel_rfl)) ?_
  intro W base args ds gs before hval0 hW hcnd _
  have hval : ∀ (j : Nat) t v, Try.f3.params[j]? = some t → args[j]? = some v → Value.okWide Try.prog W .any base t v := hval0
  have hW' := hW
  obtain ⟨p, q, hA0, hV, rfl, hfz, hnd⟩ := hW
  have hA : DataW.TrodAll enc Try.prog W 0 (fun _ => true) true Try.f3.params.toList args.toList ds p := hA0
  rw [Try.params3] at hA hval
  obtain ⟨v0, vs0, e0, es0, p0, q0, hargs, rfl, rfl, h0, r0⟩ := trodAll_cons hA
  obtain ⟨rfl, rfl, rfl⟩ := trodAll_nil r0
  obtain rfl : args = #[v0] := by cases args; simp_all
  obtain ⟨rfl, rfl⟩ := trodVars_none hV
  have k0 := h0
  have lt0 : ∀ x ∈ p0, x.block < W.heap.size := by obtain ⟨m, hm⟩ := k0; exact DataW.trod_lt m _ _ _ hm
  obtain ⟨pa0, tw0, rfl, w0⟩ := open_town (hval 0 29 v0 rfl rfl) h0
  clear hA0 hval0
  refine (walk pa0 tw0 W w0).mono fun e W' ⟨he, bel⟩ => ?_
  subst he
  exact ⟨_, rfl, _, _, _, [], _, [], hW', trodAll_mk1 (shut_bool Try.underlying4 _), (trodAll_cons_mk (Below.trod laidOut (by kernel_rfl) (of_decide_eq_true (by kernel_rfl)) k0 bel lt0) trodAll_mk0), rfl, bel.frame _, fun h => by cases h⟩

theorem over : Rows.fnExactValidTownRow.holds Try.pinned (OpenSpec.ofChange Rows.fnExactValidTownSpec) :=
  OpenClaim.holds_of_wide 3 Try.f3 rfl rfl rfl rfl rfl rfl rfl ⟨rfl, rfl, rfl, rfl, rfl⟩ rfl rfl rfl rfl rfl (by kernel_rfl) Try.func3 (by kernel_rfl)
    (of_decide_eq_true (by kernel_rfl)) (by unfold Func.isWrapper; first | (rw [if_pos (by decide +kernel)]; kernel_rfl) | (rw [if_neg (by decide +kernel)]; exact ⟨rfl, rfl⟩))
    (fun os started H enc _ => lifted os started H enc)

end Go.Proofs.Ytgmmdpdlekpmfaa.fnExactValidTown
namespace Go.Proofs.Ytgmmdpdlekpmfaa
/-- the statement -/
theorem fnExactValidTown_holds : Rows.FnExactValidTownSaid := fnExactValidTown.over
end Go.Proofs.Ytgmmdpdlekpmfaa
