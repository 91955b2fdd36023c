/- For every input the law answers true, and its arguments read afterwards as before: impl.ApplyEvent answers as its model. No condition. -/
import Derived.Test.YthagafkjlecagabGreatG0
import Derived.Test.YthagafkjlecagabGreatRows
import Derived.Test.YthagafkjlecagabGreatG1
import Derived.Test.YthagafkjlecagabGreatG4
import Derived.Test.YthagafkjlecagabGreatApI
import Derived.Test.YthagafkjlecagabGreatApS
import Derived.WalkKit
import Derived.Deep.RegionHeld3
import Derived.Deep.RegionWith
import Derived.Deep.QuietTactic
import Derived.BigQuiet
import Derived.RegionTactic
import Derived.ChangeAlike
import Derived.BigRegion
import Derived.Deep.DeepCutAuto
import Derived.ProofKit
import Derived.OpenShut
import Derived.ShutString
import Derived.ChangeOld
import Derived.Below
import Derived.Lib.SmallJoins
set_option maxRecDepth 100000
set_option maxHeartbeats 16000000
namespace Go.Proofs.YthagafkjlecagabGreat.fnExactApplyEvent
open Go.ChangeShapes Go.WideShapes Go.ChangeAt Go.RowKit Go.Joins
open Go.ChangeMaps (open_string shut_string)
set_option linter.unusedVariables false
set_option linter.unusedSimpArgs false

theorem own : ownKnob Tryz.prog.godebug = none := by kernel_rfl
theorem laidOut : laidOutB Tryz.prog = true := by kernel_rfl

theorem walk (pa0 : TA) (tw0 : Tw) (ea1 : Option Addr) (ec1 : Nat) (ev1 : Ev) (w : World) (w0 : TwIn w pa0 tw0) (w1 : EvIn w ea1 ec1 ev1) :
  Calls Tryz.prog 3 #[twV pa0 tw0, evI ea1 ec1 ev1] w fun e w' => e = .returned (.bool true) ∧ Below w.heap.size w w' := by
 obtain ⟨a1_0, c1_0, a2_0, c2_0, a3_0, c3_0, a4_0, c4_0⟩ := pa0; obtain ⟨hs, ts, ns, r, hd, ac, rt, tm, ls, cm⟩ := tw0; obtain ⟨k, ⟨dk, o, tt, n, d, zs⟩, at_, nu⟩ := ev1; have wi := w0; obtain ⟨h1, h2, h3, h4, k1, k2, k3, k4, m1, m2, m3, m4⟩ := w0; obtain ⟨zi, zk, zm⟩ := w1; dsimp only at k1 k2 k3 k4 m1 m2 m3 m4 zi zk zm
 have l1 : hs.length ≤ 9223372036854775807 := by unfold maxLen at m1; omega
 have l2 : ts.length ≤ 9223372036854775807 := by unfold maxLen at m2; omega
 have l3 : ns.length ≤ 9223372036854775807 := by unfold maxLen at m3; omega
 have l4 : ac.length ≤ 9223372036854775807 := by unfold maxLen at m4; omega
 have l5 : zs.length ≤ 9223372036854775807 := by unfold maxLen at zm; omega
 clear h1 h2 h3 h4 k1 k2 k3 k4 m1 m2 m3 m4 zk zm; have CZ := Lib.hid (fun W => lszTw ⟨a1_0, c1_0, a2_0, c2_0, a3_0, c3_0, a4_0, c4_0⟩ ⟨hs, ts, ns, r, hd, ac, rt, tm, ls, cm⟩ 1048576 W (by omega) (by omega) l1 l2 l3 l4); change Calls _ _ #[.agg #[.slice a1_0 hs.length c1_0, .slice a2_0 ts.length c2_0, .slice a3_0 ns.length c3_0, .int .i64 r, .int .i64 hd, .slice a4_0 ac.length c4_0, .int .i64 rt, .int .i64 tm, .int .i64 ls, .int .i64 cm], .agg #[.int .i64 k, .int .i64 dk, .int .i64 o, .int .i64 tt, .int .i64 n, .int .i64 d, .slice ea1 zs.length ec1, .int .i64 at_, .int .i64 nu]] _ _; have K0 := (Blk.new w 29 #[.slice a1_0 hs.length c1_0, .slice a2_0 ts.length c2_0, .slice a3_0 ns.length c3_0, .int .i64 r, .int .i64 hd, .slice a4_0 ac.length c4_0, .int .i64 rt, .int .i64 tm, .int .i64 ls, .int .i64 cm]).alloc (.cells #[.int .i64 k, .int .i64 dk, .int .i64 o, .int .i64 tt, .int .i64 n, .int .i64 d, .slice ea1 zs.length ec1, .int .i64 at_, .int .i64 nu] 36); have KE := Blk.new (w.alloc (.cells #[.slice a1_0 hs.length c1_0, .slice a2_0 ts.length c2_0, .slice a3_0 ns.length c3_0, .int .i64 r, .int .i64 hd, .slice a4_0 ac.length c4_0, .int .i64 rt, .int .i64 tm, .int .i64 ls, .int .i64 cm] 29)) 36 #[.int .i64 k, .int .i64 dk, .int .i64 o, .int .i64 tt, .int .i64 n, .int .i64 d, .slice ea1 zs.length ec1, .int .i64 at_, .int .i64 nu]; rw [World.size_alloc] at KE
 have B : Below w.heap.size w ((w.alloc (.cells #[.slice a1_0 hs.length c1_0, .slice a2_0 ts.length c2_0, .slice a3_0 ns.length c3_0, .int .i64 r, .int .i64 hd, .slice a4_0 ac.length c4_0, .int .i64 rt, .int .i64 tm, .int .i64 ls, .int .i64 cm] 29)).alloc (.cells #[.int .i64 k, .int .i64 dk, .int .i64 o, .int .i64 tt, .int .i64 n, .int .i64 d, .slice ea1 zs.length ec1, .int .i64 at_, .int .i64 nu] 36)) := by go_grown
 by_cases big : (1048576 : Int) < (hs.length : Int) + ts.length + ns.length + ac.length
 ·have hZ : szT ⟨hs, ts, ns, r, hd, ac, rt, tm, ls, cm⟩ 1048576 = -1 := by unfold szT; dsimp only; rw [if_pos big]
  rw [hZ] at CZ; clear hZ big l1 l2 l3 l4 l5; obtain ⟨q00, q01, q02, q03, q04, q05, q06, q07, q08, q09⟩ := tcl K0; go_enter Tryz.func3, Tryz.ntmps3; go_wp2_with fail; refine (CZ.out _).mono ?_; rintro e u ⟨rfl, C⟩; replace B := bel_tr B C; go_wp2_with fail; go_ret; exact ⟨rfl, B⟩
 have hI : IsTw w ⟨a1_0, c1_0, a2_0, c2_0, a3_0, c3_0, a4_0, c4_0⟩ ⟨hs, ts, ns, r, hd, ac, rt, tm, ls, cm⟩ := wi.is (by dsimp only; omega) (by dsimp only; omega) (by dsimp only; omega) (by dsimp only; omega); have HI := Lib.hid (fun W (hW : Below w.heap.size w W) => tw_below hI hW); have HZ := Lib.hid (fun W (hW : Below w.heap.size w W) => ints_below zi hW)
 obtain ⟨z, hZ⟩ : ∃ z, szT ⟨hs, ts, ns, r, hd, ac, rt, tm, ls, cm⟩ 1048576 = z := ⟨_, rfl⟩
 have hz : 0 ≤ z ∧ z ≤ 1048576 := by rw [← hZ]; unfold szT; dsimp only; rw [if_neg big]; omega
 rw [hZ] at CZ; clear hZ big l1 l2 l3 l4 hI wi zi; have d0 : decide (z < 0) = false := decide_eq_false (by omega)
 have CE := fun W => lszEv ea1 ec1 ⟨k, ⟨dk, o, tt, n, d, zs⟩, at_, nu⟩ z W hz.1 hz.2 l5
 dsimp only at CE
 by_cases bz : z - (zs.length : Int) < 0
 ·rw [if_pos bz] at CE
  have HCE := Lib.hid CE; clear CE bz l5 hz; obtain ⟨q00, q01, q02, q03, q04, q05, q06, q07, q08, q09⟩ := tcl K0; obtain ⟨qE0, qE1, qE2, qE3, qE4, qE5, qE6, qE7, qE8⟩ := cells9 KE; go_enter Tryz.func3, Tryz.ntmps3; go_wp2_with fail; generalize (w.alloc (.cells #[.slice a1_0 hs.length c1_0, .slice a2_0 ts.length c2_0, .slice a3_0 ns.length c3_0, .int .i64 r, .int .i64 hd, .slice a4_0 ac.length c4_0, .int .i64 rt, .int .i64 tm, .int .i64 ls, .int .i64 cm] 29)).alloc (.cells #[.int .i64 k, .int .i64 dk, .int .i64 o, .int .i64 tt, .int .i64 n, .int .i64 d, .slice ea1 zs.length ec1, .int .i64 at_, .int .i64 nu] 36) = u0_ at B K0 KE q00 q01 q02 q03 q04 q05 q06 q07 q08 q09 qE0 qE1 qE2 qE3 qE4 qE5 qE6 qE7 qE8 ⊢; refine (CZ.out _).mono ?_; rintro e v1_ ⟨rfl, C⟩; clear q00 q01 q02 q03 q04 q05 q06 q07 q08 q09 qE0 qE1 qE2 qE3 qE4 qE5 qE6 qE7 qE8; replace K0 := K0.next C; replace KE := KE.next C; replace B := bel_tr B C; clear C; obtain ⟨q00, q01, q02, q03, q04, q05, q06, q07, q08, q09⟩ := tcl K0; obtain ⟨qE0, qE1, qE2, qE3, qE4, qE5, qE6, qE7, qE8⟩ := cells9 KE; go_wp2_with fail; refine (HCE.out _).mono ?_; rintro e v2_ ⟨rfl, C⟩; clear q00 q01 q02 q03 q04 q05 q06 q07 q08 q09 qE0 qE1 qE2 qE3 qE4 qE5 qE6 qE7 qE8; replace K0 := K0.next C; replace KE := KE.next C; replace B := bel_tr B C; clear C; go_wp2_with fail
  go_ret; exact ⟨rfl, B⟩
 rw [if_neg bz] at CE
 have hzn : zs.length ≤ 1048576 := by omega
 have d1 : decide (z - (zs.length : Int) < 0) = false := decide_eq_false bz; have HZN := Lib.hid hzn
 obtain ⟨z9, hz9⟩ : ∃ z9, z - (zs.length : Int) = z9 := ⟨_, rfl⟩
 rw [hz9] at CE d1; have HCE := Lib.hid CE; clear CE bz l5 hz hzn hz9
 obtain ⟨bR, hbR⟩ : ∃ b, aevB ⟨hs, ts, ns, r, hd, ac, rt, tm, ls, cm⟩ ⟨k, ⟨dk, o, tt, n, d, zs⟩, at_, nu⟩ = b := ⟨_, rfl⟩
 obtain ⟨R, hR⟩ : ∃ R, aevU ⟨hs, ts, ns, r, hd, ac, rt, tm, ls, cm⟩ ⟨k, ⟨dk, o, tt, n, d, zs⟩, at_, nu⟩ = R := ⟨_, rfl⟩
 obtain ⟨hsR, tsR, nsR, rR, hdR, acR, rtR, tmR, lsR, cmR⟩ := R
 have CS := Lib.hid (fun (p : TA) W (gz : Nat) (h : IsTw W p ⟨hs, ts, ns, r, hd, ac, rt, tm, ls, cm⟩) (hi : IsInts W (some ⟨gz, 0, none⟩) zs) => (show Calls Tryz.prog 6 #[twV p ⟨hs, ts, ns, r, hd, ac, rt, tm, ls, cm⟩, evI (some ⟨gz, 0, none⟩) zs.length ⟨k, ⟨dk, o, tt, n, d, zs⟩, at_, nu⟩] W (OutTB W bR ⟨hsR, tsR, nsR, rR, hdR, acR, rtR, tmR, lsR, cmR⟩) from by
  obtain ⟨a1_p, c1_p, a2_p, c2_p, a3_p, c3_p, a4_p, c4_p⟩ := p; have := sApply a1_p a2_p a3_p a4_p c1_p c2_p c3_p c4_p hs ts ns r hd ac rt tm ls cm k dk o tt n d (some ⟨gz, 0, none⟩) zs zs.length at_ nu W h hi HZN.out (Nat.le_refl _); rw [hbR, hR] at this
  exact this))
 have CI := Lib.hid (fun (p : TA) W (gz : Nat) (h : IsTw W p ⟨hs, ts, ns, r, hd, ac, rt, tm, ls, cm⟩) (hi : IsInts W (some ⟨gz, 0, none⟩) zs) => (show Calls Tryz.prog 9 #[twV p ⟨hs, ts, ns, r, hd, ac, rt, tm, ls, cm⟩, evI (some ⟨gz, 0, none⟩) zs.length ⟨k, ⟨dk, o, tt, n, d, zs⟩, at_, nu⟩] W (OutTB W bR ⟨hsR, tsR, nsR, rR, hdR, acR, rtR, tmR, lsR, cmR⟩) from by
  obtain ⟨a1_p, c1_p, a2_p, c2_p, a3_p, c3_p, a4_p, c4_p⟩ := p; have := iApply a1_p a2_p a3_p a4_p c1_p c2_p c3_p c4_p hs ts ns r hd ac rt tm ls cm k dk o tt n d (some ⟨gz, 0, none⟩) zs zs.length at_ nu W h hi HZN.out (Nat.le_refl _); rw [hbR, hR] at this
  exact this))
 clear hbR hR
 have e0 : (bR != bR) = false := by cases bR <;> rfl
 have e0b : (bR == bR) = true := by cases bR <;> rfl
 obtain ⟨q00, q01, q02, q03, q04, q05, q06, q07, q08, q09⟩ := tcl K0; obtain ⟨qE0, qE1, qE2, qE3, qE4, qE5, qE6, qE7, qE8⟩ := cells9 KE; go_enter Tryz.func3, Tryz.ntmps3; go_wp2_with fail; generalize (w.alloc (.cells #[.slice a1_0 hs.length c1_0, .slice a2_0 ts.length c2_0, .slice a3_0 ns.length c3_0, .int .i64 r, .int .i64 hd, .slice a4_0 ac.length c4_0, .int .i64 rt, .int .i64 tm, .int .i64 ls, .int .i64 cm] 29)).alloc (.cells #[.int .i64 k, .int .i64 dk, .int .i64 o, .int .i64 tt, .int .i64 n, .int .i64 d, .slice ea1 zs.length ec1, .int .i64 at_, .int .i64 nu] 36) = u0_ at B K0 KE q00 q01 q02 q03 q04 q05 q06 q07 q08 q09 qE0 qE1 qE2 qE3 qE4 qE5 qE6 qE7 qE8 ⊢; refine (CZ.out _).mono ?_; rintro e v1_ ⟨rfl, C⟩; clear q00 q01 q02 q03 q04 q05 q06 q07 q08 q09 qE0 qE1 qE2 qE3 qE4 qE5 qE6 qE7 qE8; replace K0 := K0.next C; replace KE := KE.next C; replace B := bel_tr B C; clear C; obtain ⟨q00, q01, q02, q03, q04, q05, q06, q07, q08, q09⟩ := tcl K0; obtain ⟨qE0, qE1, qE2, qE3, qE4, qE5, qE6, qE7, qE8⟩ := cells9 KE; go_wp2_with fail; refine (HCE.out _).mono ?_; rintro e v2_ ⟨rfl, C⟩; clear q00 q01 q02 q03 q04 q05 q06 q07 q08 q09 qE0 qE1 qE2 qE3 qE4 qE5 qE6 qE7 qE8; replace K0 := K0.next C; replace KE := KE.next C; replace B := bel_tr B C; clear C; obtain ⟨q00, q01, q02, q03, q04, q05, q06, q07, q08, q09⟩ := tcl K0
 obtain ⟨qE0, qE1, qE2, qE3, qE4, qE5, qE6, qE7, qE8⟩ := cells9 KE
 go_upto_region 8 with fail
 go_cut [6, 7] (fun s6 s7 wx => ∃ (g : Nat) (p : TA), s6 = .pointer (some ⟨g, 0, none⟩) ∧ s7 = .bool bR ∧ Blk wx g 45 #[.slice p.a1 hsR.length p.c1, .slice p.a2 tsR.length p.c2, .slice p.a3 nsR.length p.c3, .int .i64 rR, .int .i64 hdR, .slice p.a4 acR.length p.c4, .int .i64 rtR, .int .i64 tmR, .int .i64 lsR, .int .i64 cmR] ∧ TwO wx v2_.heap.size p ⟨hsR, tsR, nsR, rR, hdR, acR, rtR, tmR, lsR, cmR⟩ ∧ Below v2_.heap.size v2_ wx ∧ v2_.heap.size ≤ g)
 case first =>
  have L0 := K0.lt; have LE := KE.lt; have HMK1 := Lib.hid (fun (W : World) (hW : Below v2_.heap.size v2_ W) => (⟨⟨(hW.cell (p := ⟨w.heap.size, 0, none⟩) (L0)).trans q00, (hW.cell (p := ⟨w.heap.size, 1, none⟩) (L0)).trans q01, (hW.cell (p := ⟨w.heap.size, 2, none⟩) (L0)).trans q02, (hW.cell (p := ⟨w.heap.size, 3, none⟩) (L0)).trans q03, (hW.cell (p := ⟨w.heap.size, 4, none⟩) (L0)).trans q04, (hW.cell (p := ⟨w.heap.size, 5, none⟩) (L0)).trans q05, (hW.cell (p := ⟨w.heap.size, 6, none⟩) (L0)).trans q06, (hW.cell (p := ⟨w.heap.size, 7, none⟩) (L0)).trans q07, (hW.cell (p := ⟨w.heap.size, 8, none⟩) (L0)).trans q08, (hW.cell (p := ⟨w.heap.size, 9, none⟩) (L0)).trans q09, (hW.cell (p := ⟨w.heap.size + 1, 0, none⟩) (LE)).trans qE0, (hW.cell (p := ⟨w.heap.size + 1, 1, none⟩) (LE)).trans qE1, (hW.cell (p := ⟨w.heap.size + 1, 2, none⟩) (LE)).trans qE2, (hW.cell (p := ⟨w.heap.size + 1, 3, none⟩) (LE)).trans qE3, (hW.cell (p := ⟨w.heap.size + 1, 4, none⟩) (LE)).trans qE4, (hW.cell (p := ⟨w.heap.size + 1, 5, none⟩) (LE)).trans qE5, (hW.cell (p := ⟨w.heap.size + 1, 6, none⟩) (LE)).trans qE6, (hW.cell (p := ⟨w.heap.size + 1, 7, none⟩) (LE)).trans qE7, (hW.cell (p := ⟨w.heap.size + 1, 8, none⟩) (LE)).trans qE8⟩, hW⟩ : (W.cell? ⟨w.heap.size, 0, none⟩ = some (.slice a1_0 hs.length c1_0) ∧ W.cell? ⟨w.heap.size, 1, none⟩ = some (.slice a2_0 ts.length c2_0) ∧ W.cell? ⟨w.heap.size, 2, none⟩ = some (.slice a3_0 ns.length c3_0) ∧ W.cell? ⟨w.heap.size, 3, none⟩ = some (.int .i64 r) ∧ W.cell? ⟨w.heap.size, 4, none⟩ = some (.int .i64 hd) ∧ W.cell? ⟨w.heap.size, 5, none⟩ = some (.slice a4_0 ac.length c4_0) ∧ W.cell? ⟨w.heap.size, 6, none⟩ = some (.int .i64 rt) ∧ W.cell? ⟨w.heap.size, 7, none⟩ = some (.int .i64 tm) ∧ W.cell? ⟨w.heap.size, 8, none⟩ = some (.int .i64 ls) ∧ W.cell? ⟨w.heap.size, 9, none⟩ = some (.int .i64 cm) ∧ W.cell? ⟨w.heap.size + 1, 0, none⟩ = some (.int .i64 k) ∧ W.cell? ⟨w.heap.size + 1, 1, none⟩ = some (.int .i64 dk) ∧ W.cell? ⟨w.heap.size + 1, 2, none⟩ = some (.int .i64 o) ∧ W.cell? ⟨w.heap.size + 1, 3, none⟩ = some (.int .i64 tt) ∧ W.cell? ⟨w.heap.size + 1, 4, none⟩ = some (.int .i64 n) ∧ W.cell? ⟨w.heap.size + 1, 5, none⟩ = some (.int .i64 d) ∧ W.cell? ⟨w.heap.size + 1, 6, none⟩ = some (.slice ea1 zs.length ec1) ∧ W.cell? ⟨w.heap.size + 1, 7, none⟩ = some (.int .i64 at_) ∧ W.cell? ⟨w.heap.size + 1, 8, none⟩ = some (.int .i64 nu)) ∧ Below v2_.heap.size v2_ W))
  refine wp_region_held_drew (S := (fun w' => (w'.cell? ⟨w.heap.size, 0, none⟩ = some (.slice a1_0 hs.length c1_0) ∧ w'.cell? ⟨w.heap.size, 1, none⟩ = some (.slice a2_0 ts.length c2_0) ∧ w'.cell? ⟨w.heap.size, 2, none⟩ = some (.slice a3_0 ns.length c3_0) ∧ w'.cell? ⟨w.heap.size, 3, none⟩ = some (.int .i64 r) ∧ w'.cell? ⟨w.heap.size, 4, none⟩ = some (.int .i64 hd) ∧ w'.cell? ⟨w.heap.size, 5, none⟩ = some (.slice a4_0 ac.length c4_0) ∧ w'.cell? ⟨w.heap.size, 6, none⟩ = some (.int .i64 rt) ∧ w'.cell? ⟨w.heap.size, 7, none⟩ = some (.int .i64 tm) ∧ w'.cell? ⟨w.heap.size, 8, none⟩ = some (.int .i64 ls) ∧ w'.cell? ⟨w.heap.size, 9, none⟩ = some (.int .i64 cm) ∧ w'.cell? ⟨w.heap.size + 1, 0, none⟩ = some (.int .i64 k) ∧ w'.cell? ⟨w.heap.size + 1, 1, none⟩ = some (.int .i64 dk) ∧ w'.cell? ⟨w.heap.size + 1, 2, none⟩ = some (.int .i64 o) ∧ w'.cell? ⟨w.heap.size + 1, 3, none⟩ = some (.int .i64 tt) ∧ w'.cell? ⟨w.heap.size + 1, 4, none⟩ = some (.int .i64 n) ∧ w'.cell? ⟨w.heap.size + 1, 5, none⟩ = some (.int .i64 d) ∧ w'.cell? ⟨w.heap.size + 1, 6, none⟩ = some (.slice ea1 zs.length ec1) ∧ w'.cell? ⟨w.heap.size + 1, 7, none⟩ = some (.int .i64 at_) ∧ w'.cell? ⟨w.heap.size + 1, 8, none⟩ = some (.int .i64 nu)) ∧ Below v2_.heap.size v2_ w')) (by kernel_rfl) ?_ (fun hHeld => ?_)
  ·exact ⟨⟨q00, q01, q02, q03, q04, q05, q06, q07, q08, q09, qE0, qE1, qE2, qE3, qE4, qE5, qE6, qE7, qE8⟩, (Below.refl _ _).drew⟩
  refine tk (i := 0) (v := ?v2d) rfl ?c2d ?d2d
  case c2d => (refine .inl ⟨by rfl, ?_⟩; intro w h; (try dsimp only at h); go_simp <;> with_reducible rfl)
  try simp only [pt]
  refine tk (i := 2) (v := ?v2e) rfl ?c2e ?d2e
  case c2e => (refine .inl ⟨by rfl, ?_⟩; intro w h; (try dsimp only at h); go_simp <;> with_reducible rfl)
  try simp only [pt]
  refine wpAnyH_ready (rs := [1, 8]) (by kernel_rfl) (by simp) (AllReadyH.cons (o := ?ooa4_q0) ?hia4_q0 (fun K hK => ?hka4_q0) (AllReadyH.cons (o := ?ooa4_q1) ?hia4_q1 (fun K hK => ?hka4_q1) AllReadyH.nil))
  case hia4_q0 => (simp only [gl]; rfl)
  case hia4_q1 => (simp only [gl]; rfl)
  case hka4_q0 =>
   (rw [if_pos (by rfl)]; go_simp; refine (ltoTw ⟨a1_0, c1_0, a2_0, c2_0, a3_0, c3_0, a4_0, c4_0⟩ ⟨hs, ts, ns, r, hd, ac, rt, tm, ls, cm⟩ _ (HI.out _ (bel_tr B hHeld.2))).mono ?_; rintro e p1_ ⟨⟨a1_a, c1_a, a2_a, c2_a, a3_a, c3_a, a4_a, c4_a⟩, rfl, O_a, hb⟩; have Ia := O_a.is; clear O_a; go_wp2_with fail; refine hK.out _ _ (HMK1.out _ (bel_tr hHeld.2 hb)) (fun hHeld => ?_); clear hK K)
   try simp only [pt]
   refine wpAnyH_ready (rs := [3, 8]) (by kernel_rfl) (by simp) (AllReadyH.cons (o := ?ooa5_q0) ?hia5_q0 (fun K hK => ?hka5_q0) (AllReadyH.cons (o := ?ooa5_q1) ?hia5_q1 (fun K hK => ?hka5_q1) AllReadyH.nil))
   case hia5_q0 => (simp only [gl]; rfl)
   case hia5_q1 => (simp only [gl]; rfl)
   case hka5_q0 =>
    (rw [if_pos (by rfl)]; go_simp; refine (ltoEv ea1 ec1 ⟨k, ⟨dk, o, tt, n, d, zs⟩, at_, nu⟩ _ (HZ.out _ (bel_tr B hHeld.2)) HZN.out).mono ?_; rintro e p3_ ⟨gz, rfl, lgz, Rz, hb⟩; have Iz := row_ints Rz; clear Rz lgz; replace Ia := tw_below Ia hb; go_wp2_with fail; refine hK.out _ _ (HMK1.out _ (bel_tr hHeld.2 hb)) (fun hHeld => ?_); clear hK K)
    try simp only [pt]
    refine wpAnyH_ready (rs := [4, 8]) (by kernel_rfl) (by simp) (AllReadyH.cons (o := ?ooa6_q0) ?hia6_q0 (fun K hK => ?hka6_q0) (AllReadyH.cons (o := ?ooa6_q1) ?hia6_q1 (fun K hK => ?hka6_q1) AllReadyH.nil))
    case hia6_q0 => (simp only [gl]; rfl)
    case hia6_q1 => (simp only [gl]; rfl)
    case hka6_q0 =>
     (rw [if_pos (by rfl)]; go_simp; refine (CS.out ⟨a1_a, c1_a, a2_a, c2_a, a3_a, c3_a, a4_a, c4_a⟩ _ gz Ia Iz).mono ?_; rintro e p4_ ⟨⟨a1_w, c1_w, a2_w, c2_w, a3_w, c3_w, a4_w, c4_w⟩, he, O_w, hb⟩; change e = .returned (.tuple #[.agg #[.slice a1_w hsR.length c1_w, .slice a2_w tsR.length c2_w, .slice a3_w nsR.length c3_w, .int .i64 rR, .int .i64 hdR, .slice a4_w acR.length c4_w, .int .i64 rtR, .int .i64 tmR, .int .i64 lsR, .int .i64 cmR], .bool bR]) at he; subst he; replace O_w := O_w.base hHeld.2.size; replace Ia := tw_below Ia hb; replace Iz := ints_below Iz hb; go_wp2_with fail; refine hK.out _ _ (HMK1.out _ (bel_tr hHeld.2 hb)) (fun hHeld => ?_); clear hK K)
     try simp only [pt]
     refine tk (i := 5) (v := ?v2f) rfl ?c2f ?d2f
     case c2f => (refine .inl ⟨by rfl, ?_⟩; intro w h; (try dsimp only at h); go_simp <;> with_reducible rfl)
     try simp only [pt]
     refine tk (i := 6) (v := ?v30) rfl ?c30 ?d30
     case c30 => (refine .inl ⟨by rfl, ?_⟩; intro w h; (try dsimp only at h); go_simp <;> with_reducible rfl)
     try simp only [pt]
     refine tk (i := 7) (v := ?v31) rfl ?c31 ?d31
     case c31 => (refine .inl ⟨by rfl, ?_⟩; intro w h; (try dsimp only at h); go_simp <;> with_reducible rfl)
     try simp only [pt]
     refine wpAnyH_ready (rs := [8]) (by kernel_rfl) (by simp) (AllReadyH.cons (o := ?ooa10_q0) ?hia10_q0 (fun K hK => ?hka10_q0) AllReadyH.nil)
     case hia10_q0 => (simp only [gl]; rfl)
     case hka10_q0 =>
      (rw [if_pos (by rfl)]; go_simp; replace O_w := O_w.next ((Below.refl _ p4_).alloc (Nat.le_refl _) (.cells #[.slice none 0 0, .slice none 0 0, .slice none 0 0, .int .i64 0, .int .i64 0, .slice none 0 0, .int .i64 0, .int .i64 0, .int .i64 0, .int .i64 0] 45)); have F8 := Lib.hid (Blk.new p4_ 45 #[.slice none 0 0, .slice none 0 0, .slice none 0 0, .int .i64 0, .int .i64 0, .slice none 0 0, .int .i64 0, .int .i64 0, .int .i64 0, .int .i64 0]); have EE := HMK1.out _ (hHeld.2.alloc hHeld.2.size (.cells #[.slice none 0 0, .slice none 0 0, .slice none 0 0, .int .i64 0, .int .i64 0, .slice none 0 0, .int .i64 0, .int .i64 0, .int .i64 0, .int .i64 0] 45)); have L8 := hHeld.2.size; generalize p4_.alloc (.cells #[.slice none 0 0, .slice none 0 0, .slice none 0 0, .int .i64 0, .int .i64 0, .slice none 0 0, .int .i64 0, .int .i64 0, .int .i64 0, .int .i64 0] 45) = W8a at F8 EE O_w ⊢; generalize p4_.heap.size = g8 at F8 L8 ⊢; refine hK.out _ _ (EE) (fun hHeld => ?_); clear hK K)
      try simp only [pt]
      refine wpAnyH_ready (rs := [9]) (by kernel_rfl) (by simp) (AllReadyH.cons (o := ?ooa11_q0) ?hia11_q0 (fun K hK => ?hka11_q0) AllReadyH.nil)
      case hia11_q0 => (simp only [gl]; rfl)
      case hka11_q0 =>
       (rw [if_pos (by rfl)]; obtain ⟨fc0, fc1, fc2, fc3, fc4, fc5, fc6, fc7, fc8, fc9⟩ := tcl F8.out; have ff0 := F8.out.frozen 0; have ff1 := F8.out.frozen 1; have ff2 := F8.out.frozen 2; have ff3 := F8.out.frozen 3; have ff4 := F8.out.frozen 4; have ff5 := F8.out.frozen 5; have ff6 := F8.out.frozen 6; have ff7 := F8.out.frozen 7; have ff8 := F8.out.frozen 8; have ff9 := F8.out.frozen 9; go_simp; obtain ⟨W8_11s, hy⟩ : ∃ y, y = sets10 W8a g8 (.slice a1_w hsR.length c1_w) (.slice a2_w tsR.length c2_w) (.slice a3_w nsR.length c3_w) (.int .i64 rR) (.int .i64 hdR) (.slice a4_w acR.length c4_w) (.int .i64 rtR) (.int .i64 tmR) (.int .i64 lsR) (.int .i64 cmR) := ⟨_, rfl⟩; change K _ (sets10 _ _ _ _ _ _ _ _ _ _ _ _); rw [← hy]; have EE := HMK1.out _ (X10B hHeld.2 hy L8); replace O_w := X10o O_w F8.out hy; replace F8 := Lib.hid (X10b F8.out hy); clear hy fc0 ff0 fc1 ff1 fc2 ff2 fc3 ff3 fc4 ff4 fc5 ff5 fc6 ff6 fc7 ff7 fc8 ff8 fc9 ff9; refine hK.out _ _ (EE) (fun hHeld => ?_); clear hK K)
       try simp only [pt]
       refine tk (i := 10) (v := ?v32) rfl ?c32 ?d32
       case c32 => (refine .inl ⟨by rfl, ?_⟩; intro w h; (try dsimp only at h); go_simp <;> with_reducible rfl)
       try simp only [pt]
       refine wpAnyH_done (by kernel_rfl) ?_ _; clear HMK1; go_wp2_with fail
       go_meet
       exact ⟨g8, ⟨a1_w, c1_w, a2_w, c2_w, a3_w, c3_w, a4_w, c4_w⟩, rfl, rfl, F8.out, O_w, hHeld.2, L8⟩
    case hka6_q1 =>
     (rw [if_pos (by rfl)]; go_simp; replace Ia := tw_below Ia ((Below.refl _ p3_).alloc (Nat.le_refl _) (.cells #[.slice none 0 0, .slice none 0 0, .slice none 0 0, .int .i64 0, .int .i64 0, .slice none 0 0, .int .i64 0, .int .i64 0, .int .i64 0, .int .i64 0] 45)); replace Iz := ints_below Iz ((Below.refl _ p3_).alloc (Nat.le_refl _) (.cells #[.slice none 0 0, .slice none 0 0, .slice none 0 0, .int .i64 0, .int .i64 0, .slice none 0 0, .int .i64 0, .int .i64 0, .int .i64 0, .int .i64 0] 45)); have F8 := Lib.hid (Blk.new p3_ 45 #[.slice none 0 0, .slice none 0 0, .slice none 0 0, .int .i64 0, .int .i64 0, .slice none 0 0, .int .i64 0, .int .i64 0, .int .i64 0, .int .i64 0]); have EE := HMK1.out _ (hHeld.2.alloc hHeld.2.size (.cells #[.slice none 0 0, .slice none 0 0, .slice none 0 0, .int .i64 0, .int .i64 0, .slice none 0 0, .int .i64 0, .int .i64 0, .int .i64 0, .int .i64 0] 45)); have L8 := hHeld.2.size; generalize p3_.alloc (.cells #[.slice none 0 0, .slice none 0 0, .slice none 0 0, .int .i64 0, .int .i64 0, .slice none 0 0, .int .i64 0, .int .i64 0, .int .i64 0, .int .i64 0] 45) = W8a at F8 EE Ia Iz ⊢; generalize p3_.heap.size = g8 at F8 L8 ⊢; refine hK.out _ _ (EE) (fun hHeld => ?_); clear hK K)
     try simp only [pt]
     refine wpAnyH_ready (rs := [4]) (by kernel_rfl) (by simp) (AllReadyH.cons (o := ?ooa13_q0) ?hia13_q0 (fun K hK => ?hka13_q0) AllReadyH.nil)
     case hia13_q0 => (simp only [gl]; rfl)
     case hka13_q0 =>
      (rw [if_pos (by rfl)]; go_simp; refine (CS.out ⟨a1_a, c1_a, a2_a, c2_a, a3_a, c3_a, a4_a, c4_a⟩ _ gz Ia Iz).mono ?_; rintro e p4_ ⟨⟨a1_w, c1_w, a2_w, c2_w, a3_w, c3_w, a4_w, c4_w⟩, he, O_w, hb⟩; change e = .returned (.tuple #[.agg #[.slice a1_w hsR.length c1_w, .slice a2_w tsR.length c2_w, .slice a3_w nsR.length c3_w, .int .i64 rR, .int .i64 hdR, .slice a4_w acR.length c4_w, .int .i64 rtR, .int .i64 tmR, .int .i64 lsR, .int .i64 cmR], .bool bR]) at he; subst he; replace O_w := O_w.base hHeld.2.size; replace Ia := tw_below Ia hb; replace Iz := ints_below Iz hb; replace F8 := Lib.hid (F8.out.next hb); go_wp2_with fail; refine hK.out _ _ (HMK1.out _ (bel_tr hHeld.2 hb)) (fun hHeld => ?_); clear hK K)
      try simp only [pt]
      refine tk (i := 5) (v := ?v33) rfl ?c33 ?d33
      case c33 => (refine .inl ⟨by rfl, ?_⟩; intro w h; (try dsimp only at h); go_simp <;> with_reducible rfl)
      try simp only [pt]
      refine tk (i := 6) (v := ?v34) rfl ?c34 ?d34
      case c34 => (refine .inl ⟨by rfl, ?_⟩; intro w h; (try dsimp only at h); go_simp <;> with_reducible rfl)
      try simp only [pt]
      refine tk (i := 7) (v := ?v35) rfl ?c35 ?d35
      case c35 => (refine .inl ⟨by rfl, ?_⟩; intro w h; (try dsimp only at h); go_simp <;> with_reducible rfl)
      try simp only [pt]
      refine wpAnyH_ready (rs := [9]) (by kernel_rfl) (by simp) (AllReadyH.cons (o := ?ooa17_q0) ?hia17_q0 (fun K hK => ?hka17_q0) AllReadyH.nil)
      case hia17_q0 => (simp only [gl]; rfl)
      case hka17_q0 =>
       (rw [if_pos (by rfl)]; obtain ⟨fc0, fc1, fc2, fc3, fc4, fc5, fc6, fc7, fc8, fc9⟩ := tcl F8.out; have ff0 := F8.out.frozen 0; have ff1 := F8.out.frozen 1; have ff2 := F8.out.frozen 2; have ff3 := F8.out.frozen 3; have ff4 := F8.out.frozen 4; have ff5 := F8.out.frozen 5; have ff6 := F8.out.frozen 6; have ff7 := F8.out.frozen 7; have ff8 := F8.out.frozen 8; have ff9 := F8.out.frozen 9; go_simp; obtain ⟨W8_17s, hy⟩ : ∃ y, y = sets10 p4_ g8 (.slice a1_w hsR.length c1_w) (.slice a2_w tsR.length c2_w) (.slice a3_w nsR.length c3_w) (.int .i64 rR) (.int .i64 hdR) (.slice a4_w acR.length c4_w) (.int .i64 rtR) (.int .i64 tmR) (.int .i64 lsR) (.int .i64 cmR) := ⟨_, rfl⟩; change K _ (sets10 _ _ _ _ _ _ _ _ _ _ _ _); rw [← hy]; have EE := HMK1.out _ (X10B hHeld.2 hy L8); replace O_w := X10o O_w F8.out hy; replace F8 := Lib.hid (X10b F8.out hy); clear hy fc0 ff0 fc1 ff1 fc2 ff2 fc3 ff3 fc4 ff4 fc5 ff5 fc6 ff6 fc7 ff7 fc8 ff8 fc9 ff9; refine hK.out _ _ (EE) (fun hHeld => ?_); clear hK K)
       try simp only [pt]
       refine tk (i := 10) (v := ?v36) rfl ?c36 ?d36
       case c36 => (refine .inl ⟨by rfl, ?_⟩; intro w h; (try dsimp only at h); go_simp <;> with_reducible rfl)
       try simp only [pt]
       refine wpAnyH_done (by kernel_rfl) ?_ _; clear HMK1; go_wp2_with fail
       go_meet
       exact ⟨g8, ⟨a1_w, c1_w, a2_w, c2_w, a3_w, c3_w, a4_w, c4_w⟩, rfl, rfl, F8.out, O_w, hHeld.2, L8⟩
   case hka5_q1 =>
    (rw [if_pos (by rfl)]; go_simp; replace Ia := tw_below Ia ((Below.refl _ p1_).alloc (Nat.le_refl _) (.cells #[.slice none 0 0, .slice none 0 0, .slice none 0 0, .int .i64 0, .int .i64 0, .slice none 0 0, .int .i64 0, .int .i64 0, .int .i64 0, .int .i64 0] 45)); have F8 := Lib.hid (Blk.new p1_ 45 #[.slice none 0 0, .slice none 0 0, .slice none 0 0, .int .i64 0, .int .i64 0, .slice none 0 0, .int .i64 0, .int .i64 0, .int .i64 0, .int .i64 0]); have EE := HMK1.out _ (hHeld.2.alloc hHeld.2.size (.cells #[.slice none 0 0, .slice none 0 0, .slice none 0 0, .int .i64 0, .int .i64 0, .slice none 0 0, .int .i64 0, .int .i64 0, .int .i64 0, .int .i64 0] 45)); have L8 := hHeld.2.size; generalize p1_.alloc (.cells #[.slice none 0 0, .slice none 0 0, .slice none 0 0, .int .i64 0, .int .i64 0, .slice none 0 0, .int .i64 0, .int .i64 0, .int .i64 0, .int .i64 0] 45) = W8a at F8 EE Ia ⊢; generalize p1_.heap.size = g8 at F8 L8 ⊢; refine hK.out _ _ (EE) (fun hHeld => ?_); clear hK K)
    try simp only [pt]
    refine wpAnyH_ready (rs := [3]) (by kernel_rfl) (by simp) (AllReadyH.cons (o := ?ooa19_q0) ?hia19_q0 (fun K hK => ?hka19_q0) AllReadyH.nil)
    case hia19_q0 => (simp only [gl]; rfl)
    case hka19_q0 =>
     (rw [if_pos (by rfl)]; go_simp; refine (ltoEv ea1 ec1 ⟨k, ⟨dk, o, tt, n, d, zs⟩, at_, nu⟩ _ (HZ.out _ (bel_tr B hHeld.2)) HZN.out).mono ?_; rintro e p3_ ⟨gz, rfl, lgz, Rz, hb⟩; have Iz := row_ints Rz; clear Rz lgz; replace Ia := tw_below Ia hb; replace F8 := Lib.hid (F8.out.next hb); go_wp2_with fail; refine hK.out _ _ (HMK1.out _ (bel_tr hHeld.2 hb)) (fun hHeld => ?_); clear hK K)
     try simp only [pt]
     refine wpAnyH_ready (rs := [4]) (by kernel_rfl) (by simp) (AllReadyH.cons (o := ?ooa20_q0) ?hia20_q0 (fun K hK => ?hka20_q0) AllReadyH.nil)
     case hia20_q0 => (simp only [gl]; rfl)
     case hka20_q0 =>
      (rw [if_pos (by rfl)]; go_simp; refine (CS.out ⟨a1_a, c1_a, a2_a, c2_a, a3_a, c3_a, a4_a, c4_a⟩ _ gz Ia Iz).mono ?_; rintro e p4_ ⟨⟨a1_w, c1_w, a2_w, c2_w, a3_w, c3_w, a4_w, c4_w⟩, he, O_w, hb⟩; change e = .returned (.tuple #[.agg #[.slice a1_w hsR.length c1_w, .slice a2_w tsR.length c2_w, .slice a3_w nsR.length c3_w, .int .i64 rR, .int .i64 hdR, .slice a4_w acR.length c4_w, .int .i64 rtR, .int .i64 tmR, .int .i64 lsR, .int .i64 cmR], .bool bR]) at he; subst he; replace O_w := O_w.base hHeld.2.size; replace Ia := tw_below Ia hb; replace F8 := Lib.hid (F8.out.next hb); replace Iz := ints_below Iz hb; go_wp2_with fail; refine hK.out _ _ (HMK1.out _ (bel_tr hHeld.2 hb)) (fun hHeld => ?_); clear hK K)
      try simp only [pt]
      refine tk (i := 5) (v := ?v37) rfl ?c37 ?d37
      case c37 => (refine .inl ⟨by rfl, ?_⟩; intro w h; (try dsimp only at h); go_simp <;> with_reducible rfl)
      try simp only [pt]
      refine tk (i := 6) (v := ?v38) rfl ?c38 ?d38
      case c38 => (refine .inl ⟨by rfl, ?_⟩; intro w h; (try dsimp only at h); go_simp <;> with_reducible rfl)
      try simp only [pt]
      refine tk (i := 7) (v := ?v39) rfl ?c39 ?d39
      case c39 => (refine .inl ⟨by rfl, ?_⟩; intro w h; (try dsimp only at h); go_simp <;> with_reducible rfl)
      try simp only [pt]
      refine wpAnyH_ready (rs := [9]) (by kernel_rfl) (by simp) (AllReadyH.cons (o := ?ooa24_q0) ?hia24_q0 (fun K hK => ?hka24_q0) AllReadyH.nil)
      case hia24_q0 => (simp only [gl]; rfl)
      case hka24_q0 =>
       (rw [if_pos (by rfl)]; obtain ⟨fc0, fc1, fc2, fc3, fc4, fc5, fc6, fc7, fc8, fc9⟩ := tcl F8.out; have ff0 := F8.out.frozen 0; have ff1 := F8.out.frozen 1; have ff2 := F8.out.frozen 2; have ff3 := F8.out.frozen 3; have ff4 := F8.out.frozen 4; have ff5 := F8.out.frozen 5; have ff6 := F8.out.frozen 6; have ff7 := F8.out.frozen 7; have ff8 := F8.out.frozen 8; have ff9 := F8.out.frozen 9; go_simp; obtain ⟨W8_24s, hy⟩ : ∃ y, y = sets10 p4_ g8 (.slice a1_w hsR.length c1_w) (.slice a2_w tsR.length c2_w) (.slice a3_w nsR.length c3_w) (.int .i64 rR) (.int .i64 hdR) (.slice a4_w acR.length c4_w) (.int .i64 rtR) (.int .i64 tmR) (.int .i64 lsR) (.int .i64 cmR) := ⟨_, rfl⟩; change K _ (sets10 _ _ _ _ _ _ _ _ _ _ _ _); rw [← hy]; have EE := HMK1.out _ (X10B hHeld.2 hy L8); replace O_w := X10o O_w F8.out hy; replace F8 := Lib.hid (X10b F8.out hy); clear hy fc0 ff0 fc1 ff1 fc2 ff2 fc3 ff3 fc4 ff4 fc5 ff5 fc6 ff6 fc7 ff7 fc8 ff8 fc9 ff9; refine hK.out _ _ (EE) (fun hHeld => ?_); clear hK K)
       try simp only [pt]
       refine tk (i := 10) (v := ?v3a) rfl ?c3a ?d3a
       case c3a => (refine .inl ⟨by rfl, ?_⟩; intro w h; (try dsimp only at h); go_simp <;> with_reducible rfl)
       try simp only [pt]
       refine wpAnyH_done (by kernel_rfl) ?_ _; clear HMK1; go_wp2_with fail
       go_meet
       exact ⟨g8, ⟨a1_w, c1_w, a2_w, c2_w, a3_w, c3_w, a4_w, c4_w⟩, rfl, rfl, F8.out, O_w, hHeld.2, L8⟩
  case hka4_q1 =>
   (rw [if_pos (by rfl)]; go_simp; have F8 : Hid (Blk (v2_.alloc (.cells #[.slice none 0 0, .slice none 0 0, .slice none 0 0, .int .i64 0, .int .i64 0, .slice none 0 0, .int .i64 0, .int .i64 0, .int .i64 0, .int .i64 0] 45)).drew v2_.heap.size 45 #[.slice none 0 0, .slice none 0 0, .slice none 0 0, .int .i64 0, .int .i64 0, .slice none 0 0, .int .i64 0, .int .i64 0, .int .i64 0, .int .i64 0]) := Blk.new v2_ 45 #[.slice none 0 0, .slice none 0 0, .slice none 0 0, .int .i64 0, .int .i64 0, .slice none 0 0, .int .i64 0, .int .i64 0, .int .i64 0, .int .i64 0]; have EE := HMK1.out (v2_.alloc (.cells #[.slice none 0 0, .slice none 0 0, .slice none 0 0, .int .i64 0, .int .i64 0, .slice none 0 0, .int .i64 0, .int .i64 0, .int .i64 0, .int .i64 0] 45)).drew ((Below.refl _ v2_).alloc (Nat.le_refl _) (.cells #[.slice none 0 0, .slice none 0 0, .slice none 0 0, .int .i64 0, .int .i64 0, .slice none 0 0, .int .i64 0, .int .i64 0, .int .i64 0, .int .i64 0] 45)).drew; have L8 : v2_.heap.size ≤ v2_.heap.size := Nat.le_refl _; generalize (v2_.alloc (.cells #[.slice none 0 0, .slice none 0 0, .slice none 0 0, .int .i64 0, .int .i64 0, .slice none 0 0, .int .i64 0, .int .i64 0, .int .i64 0, .int .i64 0] 45)).drew = W8a at F8 EE ⊢; obtain ⟨g8, hgf⟩ : ∃ gf, gf = v2_.heap.size := ⟨_, rfl⟩; rw [← hgf] at F8 ⊢; replace L8 : v2_.heap.size ≤ g8 := (by omega); clear hgf; refine hK.out _ _ (EE) (fun hHeld => ?_); clear hK K)
   try simp only [pt]
   refine wpAnyH_ready (rs := [1]) (by kernel_rfl) (by simp) (AllReadyH.cons (o := ?ooa26_q0) ?hia26_q0 (fun K hK => ?hka26_q0) AllReadyH.nil)
   case hia26_q0 => (simp only [gl]; rfl)
   case hka26_q0 =>
    (rw [if_pos (by rfl)]; go_simp; refine (ltoTw ⟨a1_0, c1_0, a2_0, c2_0, a3_0, c3_0, a4_0, c4_0⟩ ⟨hs, ts, ns, r, hd, ac, rt, tm, ls, cm⟩ _ (HI.out _ (bel_tr B hHeld.2))).mono ?_; rintro e p1_ ⟨⟨a1_a, c1_a, a2_a, c2_a, a3_a, c3_a, a4_a, c4_a⟩, rfl, O_a, hb⟩; have Ia := O_a.is; clear O_a; replace F8 := Lib.hid (F8.out.next hb); go_wp2_with fail; refine hK.out _ _ (HMK1.out _ (bel_tr hHeld.2 hb)) (fun hHeld => ?_); clear hK K)
    try simp only [pt]
    refine wpAnyH_ready (rs := [3]) (by kernel_rfl) (by simp) (AllReadyH.cons (o := ?ooa27_q0) ?hia27_q0 (fun K hK => ?hka27_q0) AllReadyH.nil)
    case hia27_q0 => (simp only [gl]; rfl)
    case hka27_q0 =>
     (rw [if_pos (by rfl)]; go_simp; refine (ltoEv ea1 ec1 ⟨k, ⟨dk, o, tt, n, d, zs⟩, at_, nu⟩ _ (HZ.out _ (bel_tr B hHeld.2)) HZN.out).mono ?_; rintro e p3_ ⟨gz, rfl, lgz, Rz, hb⟩; have Iz := row_ints Rz; clear Rz lgz; replace F8 := Lib.hid (F8.out.next hb); replace Ia := tw_below Ia hb; go_wp2_with fail; refine hK.out _ _ (HMK1.out _ (bel_tr hHeld.2 hb)) (fun hHeld => ?_); clear hK K)
     try simp only [pt]
     refine wpAnyH_ready (rs := [4]) (by kernel_rfl) (by simp) (AllReadyH.cons (o := ?ooa28_q0) ?hia28_q0 (fun K hK => ?hka28_q0) AllReadyH.nil)
     case hia28_q0 => (simp only [gl]; rfl)
     case hka28_q0 =>
      (rw [if_pos (by rfl)]; go_simp; refine (CS.out ⟨a1_a, c1_a, a2_a, c2_a, a3_a, c3_a, a4_a, c4_a⟩ _ gz Ia Iz).mono ?_; rintro e p4_ ⟨⟨a1_w, c1_w, a2_w, c2_w, a3_w, c3_w, a4_w, c4_w⟩, he, O_w, hb⟩; change e = .returned (.tuple #[.agg #[.slice a1_w hsR.length c1_w, .slice a2_w tsR.length c2_w, .slice a3_w nsR.length c3_w, .int .i64 rR, .int .i64 hdR, .slice a4_w acR.length c4_w, .int .i64 rtR, .int .i64 tmR, .int .i64 lsR, .int .i64 cmR], .bool bR]) at he; subst he; replace O_w := O_w.base hHeld.2.size; replace F8 := Lib.hid (F8.out.next hb); replace Ia := tw_below Ia hb; replace Iz := ints_below Iz hb; go_wp2_with fail; refine hK.out _ _ (HMK1.out _ (bel_tr hHeld.2 hb)) (fun hHeld => ?_); clear hK K)
      try simp only [pt]
      refine tk (i := 5) (v := ?v3b) rfl ?c3b ?d3b
      case c3b => (refine .inl ⟨by rfl, ?_⟩; intro w h; (try dsimp only at h); go_simp <;> with_reducible rfl)
      try simp only [pt]
      refine tk (i := 6) (v := ?v3c) rfl ?c3c ?d3c
      case c3c => (refine .inl ⟨by rfl, ?_⟩; intro w h; (try dsimp only at h); go_simp <;> with_reducible rfl)
      try simp only [pt]
      refine tk (i := 7) (v := ?v3d) rfl ?c3d ?d3d
      case c3d => (refine .inl ⟨by rfl, ?_⟩; intro w h; (try dsimp only at h); go_simp <;> with_reducible rfl)
      try simp only [pt]
      refine wpAnyH_ready (rs := [9]) (by kernel_rfl) (by simp) (AllReadyH.cons (o := ?ooa32_q0) ?hia32_q0 (fun K hK => ?hka32_q0) AllReadyH.nil)
      case hia32_q0 => (simp only [gl]; rfl)
      case hka32_q0 =>
       (rw [if_pos (by rfl)]; obtain ⟨fc0, fc1, fc2, fc3, fc4, fc5, fc6, fc7, fc8, fc9⟩ := tcl F8.out; have ff0 := F8.out.frozen 0; have ff1 := F8.out.frozen 1; have ff2 := F8.out.frozen 2; have ff3 := F8.out.frozen 3; have ff4 := F8.out.frozen 4; have ff5 := F8.out.frozen 5; have ff6 := F8.out.frozen 6; have ff7 := F8.out.frozen 7; have ff8 := F8.out.frozen 8; have ff9 := F8.out.frozen 9; go_simp; obtain ⟨W8_32s, hy⟩ : ∃ y, y = sets10 p4_ g8 (.slice a1_w hsR.length c1_w) (.slice a2_w tsR.length c2_w) (.slice a3_w nsR.length c3_w) (.int .i64 rR) (.int .i64 hdR) (.slice a4_w acR.length c4_w) (.int .i64 rtR) (.int .i64 tmR) (.int .i64 lsR) (.int .i64 cmR) := ⟨_, rfl⟩; change K _ (sets10 _ _ _ _ _ _ _ _ _ _ _ _); rw [← hy]; have EE := HMK1.out _ (X10B hHeld.2 hy L8); replace O_w := X10o O_w F8.out hy; replace F8 := Lib.hid (X10b F8.out hy); clear hy fc0 ff0 fc1 ff1 fc2 ff2 fc3 ff3 fc4 ff4 fc5 ff5 fc6 ff6 fc7 ff7 fc8 ff8 fc9 ff9; refine hK.out _ _ (EE) (fun hHeld => ?_); clear hK K)
       try simp only [pt]
       refine tk (i := 10) (v := ?v3e) rfl ?c3e ?d3e
       case c3e => (refine .inl ⟨by rfl, ?_⟩; intro w h; (try dsimp only at h); go_simp <;> with_reducible rfl)
       try simp only [pt]
       refine wpAnyH_done (by kernel_rfl) ?_ _; clear HMK1; go_wp2_with fail
       go_meet
       exact ⟨g8, ⟨a1_w, c1_w, a2_w, c2_w, a3_w, c3_w, a4_w, c4_w⟩, rfl, rfl, F8.out, O_w, hHeld.2, L8⟩
 case rest =>
  obtain ⟨g_W, ⟨a1_W, c1_W, a2_W, c2_W, a3_W, c3_W, a4_W, c4_W⟩, rfl, rfl, K_W, O_W, C, L_W⟩ := hcut; dsimp only at K_W
  obtain ⟨wc_W, hwc⟩ : ∃ W, W = wc := ⟨_, rfl⟩
  subst hwc; clear q00 q01 q02 q03 q04 q05 q06 q07 q08 q09 qE0 qE1 qE2 qE3 qE4 qE5 qE6 qE7 qE8; replace K0 := K0.next C; replace KE := KE.next C; replace B := bel_tr B C; clear C; have I_W := O_W.is; have I_W0 := Lib.hid I_W; clear O_W; have D := Below.refl wc_W.heap.size wc_W; have HK0 := Lib.hid K0; have HKE := Lib.hid KE; have HKW := Lib.hid K_W; have hU := B.size; have hEU := KE.lt; have L0U := K0.lt; have LWU := K_W.lt; obtain ⟨q00, q01, q02, q03, q04, q05, q06, q07, q08, q09⟩ := tcl K0; go_wp2_with fail; refine (ltoTw ⟨a1_0, c1_0, a2_0, c2_0, a3_0, c3_0, a4_0, c4_0⟩ ⟨hs, ts, ns, r, hd, ac, rt, tm, ls, cm⟩ _ (HI.out _ B)).mono ?_; rintro e v3_ ⟨⟨a1_x, c1_x, a2_x, c2_x, a3_x, c3_x, a4_x, c4_x⟩, he, O_x, C⟩; change e = .returned (.agg #[.slice a1_x hs.length c1_x, .slice a2_x ts.length c2_x, .slice a3_x ns.length c3_x, .int .i64 r, .int .i64 hd, .slice a4_x ac.length c4_x, .int .i64 rt, .int .i64 tm, .int .i64 ls, .int .i64 cm]) at he; subst he; clear q00 q01 q02 q03 q04 q05 q06 q07 q08 q09; replace K0 := K0.next C; replace KE := KE.next C; replace K_W := K_W.next C; replace I_W := tw_below I_W C; replace B := bel_tr B C; replace D := bel_tr D C; clear C; have XL := Lib.hid (fun q (hq : TA.own ⟨a1_x, c1_x, a2_x, c2_x, a3_x, c3_x, a4_x, c4_x⟩ q) => O_x.own_ge hq); have CA := (Below.refl _ v3_).alloc (Nat.le_refl _) (.cells #[.slice a1_x hs.length c1_x, .slice a2_x ts.length c2_x, .slice a3_x ns.length c3_x, .int .i64 r, .int .i64 hd, .slice a4_x ac.length c4_x, .int .i64 rt, .int .i64 tm, .int .i64 ls, .int .i64 cm] 45)
  replace K0 := K0.next CA; replace KE := KE.next CA; replace K_W := K_W.next CA; replace I_W := tw_below I_W CA; replace O_x := O_x.next CA; replace B := bel_tr B CA; replace D := bel_tr D CA; have K_x := Blk.new v3_ 45 #[.slice a1_x hs.length c1_x, .slice a2_x ts.length c2_x, .slice a3_x ns.length c3_x, .int .i64 r, .int .i64 hd, .slice a4_x ac.length c4_x, .int .i64 rt, .int .i64 tm, .int .i64 ls, .int .i64 cm]; obtain ⟨qE0, qE1, qE2, qE3, qE4, qE5, qE6, qE7, qE8⟩ := cells9 KE; go_wp2_with fail; generalize v3_.alloc (.cells #[.slice a1_x hs.length c1_x, .slice a2_x ts.length c2_x, .slice a3_x ns.length c3_x, .int .i64 r, .int .i64 hd, .slice a4_x ac.length c4_x, .int .i64 rt, .int .i64 tm, .int .i64 ls, .int .i64 cm] 45) = v4_ at B CA K0 KE K_W K_x I_W O_x qE0 qE1 qE2 qE3 qE4 qE5 qE6 qE7 qE8 D ⊢; clear CA; have ltx := K_x.lt; have hDz := D.size; refine (ltoEv ea1 ec1 ⟨k, ⟨dk, o, tt, n, d, zs⟩, at_, nu⟩ _ (HZ.out _ B) HZN.out).mono ?_; rintro e v5_ ⟨gz, he, lgz, Rz, C⟩; change e = .returned (.agg #[.int .i64 k, .int .i64 dk, .int .i64 o, .int .i64 tt, .int .i64 n, .int .i64 d, .slice (some ⟨gz, 0, none⟩) zs.length zs.length, .int .i64 at_, .int .i64 nu]) at he; subst he; dsimp only at Rz; clear qE0 qE1 qE2 qE3 qE4 qE5 qE6 qE7 qE8; replace K0 := K0.next C; replace KE := KE.next C; replace K_W := K_W.next C; replace K_x := K_x.next C; replace I_W := tw_below I_W C; replace O_x := O_x.next C; replace B := bel_tr B C
  replace D := bel_tr D C; clear C; have ltz := Rz.lt; have CA := (Below.refl _ v5_).alloc (Nat.le_refl _) (.cells #[.int .i64 k, .int .i64 dk, .int .i64 o, .int .i64 tt, .int .i64 n, .int .i64 d, .slice (some ⟨gz, 0, none⟩) zs.length zs.length, .int .i64 at_, .int .i64 nu] 53); replace K0 := K0.next CA; replace KE := KE.next CA; replace K_W := K_W.next CA; replace K_x := K_x.next CA; replace I_W := tw_below I_W CA; replace O_x := O_x.next CA; replace Rz := row_keep Rz CA; replace B := bel_tr B CA; replace D := bel_tr D CA; have K_y := Blk.new v5_ 53 #[.int .i64 k, .int .i64 dk, .int .i64 o, .int .i64 tt, .int .i64 n, .int .i64 d, .slice (some ⟨gz, 0, none⟩) zs.length zs.length, .int .i64 at_, .int .i64 nu]; obtain ⟨qx0, qx1, qx2, qx3, qx4, qx5, qx6, qx7, qx8, qx9⟩ := tcl K_x; obtain ⟨qy0, qy1, qy2, qy3, qy4, qy5, qy6, qy7, qy8⟩ := cells9 K_y; go_wp2_with fail; generalize v5_.alloc (.cells #[.int .i64 k, .int .i64 dk, .int .i64 o, .int .i64 tt, .int .i64 n, .int .i64 d, .slice (some ⟨gz, 0, none⟩) zs.length zs.length, .int .i64 at_, .int .i64 nu] 53) = v6_ at B CA K0 KE K_W K_x K_y I_W O_x Rz qx0 qx1 qx2 qx3 qx4 qx5 qx6 qx7 qx8 qx9 qy0 qy1 qy2 qy3 qy4 qy5 qy6 qy7 qy8 D ⊢; clear CA; have lty := K_y.lt; refine (CI.out ⟨a1_x, c1_x, a2_x, c2_x, a3_x, c3_x, a4_x, c4_x⟩ _ gz O_x.is (row_ints Rz)).mono ?_; rintro e v7_ ⟨⟨a1_g, c1_g, a2_g, c2_g, a3_g, c3_g, a4_g, c4_g⟩, he, O_g, C⟩
  change e = .returned (.tuple #[.agg #[.slice a1_g hsR.length c1_g, .slice a2_g tsR.length c2_g, .slice a3_g nsR.length c3_g, .int .i64 rR, .int .i64 hdR, .slice a4_g acR.length c4_g, .int .i64 rtR, .int .i64 tmR, .int .i64 lsR, .int .i64 cmR], .bool bR]) at he; subst he; have hbg := D.size; have hgU := C.size; clear qx0 qx1 qx2 qx3 qx4 qx5 qx6 qx7 qx8 qx9 qy0 qy1 qy2 qy3 qy4 qy5 qy6 qy7 qy8; replace K0 := K0.next C; replace KE := KE.next C; replace K_W := K_W.next C; replace K_x := K_x.next C; replace K_y := K_y.next C; replace I_W := tw_below I_W C; replace O_x := O_x.next C; replace Rz := row_keep Rz C; replace B := bel_tr B C; replace D := bel_tr D C; clear C; have CA := (Below.refl _ v7_).alloc (Nat.le_refl _) (.cells #[.slice a1_g hsR.length c1_g, .slice a2_g tsR.length c2_g, .slice a3_g nsR.length c3_g, .int .i64 rR, .int .i64 hdR, .slice a4_g acR.length c4_g, .int .i64 rtR, .int .i64 tmR, .int .i64 lsR, .int .i64 cmR] 45); replace K0 := K0.next CA; replace KE := KE.next CA; replace K_W := K_W.next CA; replace K_x := K_x.next CA; replace K_y := K_y.next CA; replace I_W := tw_below I_W CA; replace O_x := O_x.next CA; replace Rz := row_keep Rz CA; replace O_g := O_g.next CA; replace B := bel_tr B CA; replace D := bel_tr D CA; have K_g := Blk.new v7_ 45 #[.slice a1_g hsR.length c1_g, .slice a2_g tsR.length c2_g, .slice a3_g nsR.length c3_g, .int .i64 rR, .int .i64 hdR, .slice a4_g acR.length c4_g, .int .i64 rtR, .int .i64 tmR, .int .i64 lsR, .int .i64 cmR]
  obtain ⟨qg0, qg1, qg2, qg3, qg4, qg5, qg6, qg7, qg8, qg9⟩ := tcl K_g; obtain ⟨qW0, qW1, qW2, qW3, qW4, qW5, qW6, qW7, qW8, qW9⟩ := tcl K_W; go_wp2_with fail; generalize v7_.alloc (.cells #[.slice a1_g hsR.length c1_g, .slice a2_g tsR.length c2_g, .slice a3_g nsR.length c3_g, .int .i64 rR, .int .i64 hdR, .slice a4_g acR.length c4_g, .int .i64 rtR, .int .i64 tmR, .int .i64 lsR, .int .i64 cmR] 45) = v8_ at B CA K0 KE K_W K_x K_y K_g I_W O_x Rz O_g qg0 qg1 qg2 qg3 qg4 qg5 qg6 qg7 qg8 qg9 qW0 qW1 qW2 qW3 qW4 qW5 qW6 qW7 qW8 qW9 D ⊢; clear CA; have ltg := K_g.lt; refine (leqTw ⟨a1_g, c1_g, a2_g, c2_g, a3_g, c3_g, a4_g, c4_g⟩ ⟨a1_W, c1_W, a2_W, c2_W, a3_W, c3_W, a4_W, c4_W⟩ ⟨hsR, tsR, nsR, rR, hdR, acR, rtR, tmR, lsR, cmR⟩ _ O_g.is I_W).mono ?_; rintro e v9_ ⟨rfl, C⟩; clear qg0 qg1 qg2 qg3 qg4 qg5 qg6 qg7 qg8 qg9 qW0 qW1 qW2 qW3 qW4 qW5 qW6 qW7 qW8 qW9; replace K0 := K0.next C; replace KE := KE.next C; replace K_W := K_W.next C; replace K_x := K_x.next C; replace K_y := K_y.next C; replace K_g := K_g.next C; replace I_W := tw_below I_W C; replace O_x := O_x.next C; replace Rz := row_keep Rz C; replace O_g := O_g.next C; replace B := bel_tr B C; replace D := bel_tr D C; clear C; obtain ⟨qx0, qx1, qx2, qx3, qx4, qx5, qx6, qx7, qx8, qx9⟩ := tcl K_x; obtain ⟨q00, q01, q02, q03, q04, q05, q06, q07, q08, q09⟩ := tcl K0; go_wp2_with fail; have HMK34 := Lib.hid (fun (W : World) (hW : Below v9_.heap.size v9_ W) => (⟨⟨(hW.cell (p := ⟨v3_.heap.size, 0, none⟩) (K_x.lt)).trans qx0, (hW.cell (p := ⟨v3_.heap.size, 1, none⟩) (K_x.lt)).trans qx1, (hW.cell (p := ⟨v3_.heap.size, 2, none⟩) (K_x.lt)).trans qx2, (hW.cell (p := ⟨v3_.heap.size, 3, none⟩) (K_x.lt)).trans qx3, (hW.cell (p := ⟨v3_.heap.size, 4, none⟩) (K_x.lt)).trans qx4, (hW.cell (p := ⟨v3_.heap.size, 5, none⟩) (K_x.lt)).trans qx5, (hW.cell (p := ⟨v3_.heap.size, 6, none⟩) (K_x.lt)).trans qx6, (hW.cell (p := ⟨v3_.heap.size, 7, none⟩) (K_x.lt)).trans qx7, (hW.cell (p := ⟨v3_.heap.size, 8, none⟩) (K_x.lt)).trans qx8, (hW.cell (p := ⟨v3_.heap.size, 9, none⟩) (K_x.lt)).trans qx9, (hW.cell (p := ⟨w.heap.size, 0, none⟩) (K0.lt)).trans q00, (hW.cell (p := ⟨w.heap.size, 1, none⟩) (K0.lt)).trans q01, (hW.cell (p := ⟨w.heap.size, 2, none⟩) (K0.lt)).trans q02, (hW.cell (p := ⟨w.heap.size, 3, none⟩) (K0.lt)).trans q03, (hW.cell (p := ⟨w.heap.size, 4, none⟩) (K0.lt)).trans q04, (hW.cell (p := ⟨w.heap.size, 5, none⟩) (K0.lt)).trans q05, (hW.cell (p := ⟨w.heap.size, 6, none⟩) (K0.lt)).trans q06, (hW.cell (p := ⟨w.heap.size, 7, none⟩) (K0.lt)).trans q07, (hW.cell (p := ⟨w.heap.size, 8, none⟩) (K0.lt)).trans q08, (hW.cell (p := ⟨w.heap.size, 9, none⟩) (K0.lt)).trans q09⟩, hW⟩ : (W.cell? ⟨v3_.heap.size, 0, none⟩ = some (.slice a1_x hs.length c1_x) ∧ W.cell? ⟨v3_.heap.size, 1, none⟩ = some (.slice a2_x ts.length c2_x) ∧ W.cell? ⟨v3_.heap.size, 2, none⟩ = some (.slice a3_x ns.length c3_x) ∧ W.cell? ⟨v3_.heap.size, 3, none⟩ = some (.int .i64 r) ∧ W.cell? ⟨v3_.heap.size, 4, none⟩ = some (.int .i64 hd) ∧ W.cell? ⟨v3_.heap.size, 5, none⟩ = some (.slice a4_x ac.length c4_x) ∧ W.cell? ⟨v3_.heap.size, 6, none⟩ = some (.int .i64 rt) ∧ W.cell? ⟨v3_.heap.size, 7, none⟩ = some (.int .i64 tm) ∧ W.cell? ⟨v3_.heap.size, 8, none⟩ = some (.int .i64 ls) ∧ W.cell? ⟨v3_.heap.size, 9, none⟩ = some (.int .i64 cm) ∧ W.cell? ⟨w.heap.size, 0, none⟩ = some (.slice a1_0 hs.length c1_0) ∧ W.cell? ⟨w.heap.size, 1, none⟩ = some (.slice a2_0 ts.length c2_0) ∧ W.cell? ⟨w.heap.size, 2, none⟩ = some (.slice a3_0 ns.length c3_0) ∧ W.cell? ⟨w.heap.size, 3, none⟩ = some (.int .i64 r) ∧ W.cell? ⟨w.heap.size, 4, none⟩ = some (.int .i64 hd) ∧ W.cell? ⟨w.heap.size, 5, none⟩ = some (.slice a4_0 ac.length c4_0) ∧ W.cell? ⟨w.heap.size, 6, none⟩ = some (.int .i64 rt) ∧ W.cell? ⟨w.heap.size, 7, none⟩ = some (.int .i64 tm) ∧ W.cell? ⟨w.heap.size, 8, none⟩ = some (.int .i64 ls) ∧ W.cell? ⟨w.heap.size, 9, none⟩ = some (.int .i64 cm)) ∧ Below v9_.heap.size v9_ W))
  refine wp_region_held_drew (S := (fun w' => (w'.cell? ⟨v3_.heap.size, 0, none⟩ = some (.slice a1_x hs.length c1_x) ∧ w'.cell? ⟨v3_.heap.size, 1, none⟩ = some (.slice a2_x ts.length c2_x) ∧ w'.cell? ⟨v3_.heap.size, 2, none⟩ = some (.slice a3_x ns.length c3_x) ∧ w'.cell? ⟨v3_.heap.size, 3, none⟩ = some (.int .i64 r) ∧ w'.cell? ⟨v3_.heap.size, 4, none⟩ = some (.int .i64 hd) ∧ w'.cell? ⟨v3_.heap.size, 5, none⟩ = some (.slice a4_x ac.length c4_x) ∧ w'.cell? ⟨v3_.heap.size, 6, none⟩ = some (.int .i64 rt) ∧ w'.cell? ⟨v3_.heap.size, 7, none⟩ = some (.int .i64 tm) ∧ w'.cell? ⟨v3_.heap.size, 8, none⟩ = some (.int .i64 ls) ∧ w'.cell? ⟨v3_.heap.size, 9, none⟩ = some (.int .i64 cm) ∧ w'.cell? ⟨w.heap.size, 0, none⟩ = some (.slice a1_0 hs.length c1_0) ∧ w'.cell? ⟨w.heap.size, 1, none⟩ = some (.slice a2_0 ts.length c2_0) ∧ w'.cell? ⟨w.heap.size, 2, none⟩ = some (.slice a3_0 ns.length c3_0) ∧ w'.cell? ⟨w.heap.size, 3, none⟩ = some (.int .i64 r) ∧ w'.cell? ⟨w.heap.size, 4, none⟩ = some (.int .i64 hd) ∧ w'.cell? ⟨w.heap.size, 5, none⟩ = some (.slice a4_0 ac.length c4_0) ∧ w'.cell? ⟨w.heap.size, 6, none⟩ = some (.int .i64 rt) ∧ w'.cell? ⟨w.heap.size, 7, none⟩ = some (.int .i64 tm) ∧ w'.cell? ⟨w.heap.size, 8, none⟩ = some (.int .i64 ls) ∧ w'.cell? ⟨w.heap.size, 9, none⟩ = some (.int .i64 cm)) ∧ Below v9_.heap.size v9_ w')) (by kernel_rfl) ?_ (fun hHeld => ?_)
  ·exact ⟨⟨qx0, qx1, qx2, qx3, qx4, qx5, qx6, qx7, qx8, qx9, q00, q01, q02, q03, q04, q05, q06, q07, q08, q09⟩, (Below.refl _ _).drew⟩
  refine tk (i := 0) (v := ?v3f) rfl ?c3f ?d3f
  case c3f => (refine .inl ⟨by rfl, ?_⟩; intro w h; (try dsimp only at h); go_simp <;> with_reducible rfl)
  try simp only [pt]
  refine tk (i := 1) (v := ?v40) rfl ?c40 ?d40
  case c40 => (refine .inl ⟨by rfl, ?_⟩; intro w h; (try dsimp only at h); go_simp <;> with_reducible rfl)
  try simp only [pt]
  refine wpAnyH_ready (rs := [2]) (by kernel_rfl) (by simp) (AllReadyH.cons (o := ?ooa37_q0) ?hia37_q0 (fun K hK => ?hka37_q0) AllReadyH.nil)
  case hia37_q0 => (simp only [gl]; rfl)
  case hka37_q0 =>
   (rw [if_pos (by rfl)]; go_simp; refine (ltoTw ⟨a1_0, c1_0, a2_0, c2_0, a3_0, c3_0, a4_0, c4_0⟩ ⟨hs, ts, ns, r, hd, ac, rt, tm, ls, cm⟩ _ (HI.out _ (bel_tr B hHeld.2))).mono ?_; rintro e r2_ ⟨⟨a1_3, c1_3, a2_3, c2_3, a3_3, c3_3, a4_3, c4_3⟩, rfl, O_3, hb⟩; have I3 := O_3.is; clear O_3; go_wp2_with fail; refine hK.out _ _ (HMK34.out _ (bel_tr hHeld.2 hb)) (fun hHeld => ?_); clear hK K)
   try simp only [pt]
   refine wpAnyH_ready (rs := [3]) (by kernel_rfl) (by simp) (AllReadyH.cons (o := ?ooa38_q0) ?hia38_q0 (fun K hK => ?hka38_q0) AllReadyH.nil)
   case hia38_q0 => (simp only [gl]; rfl)
   case hka38_q0 =>
    (rw [if_pos (by rfl)]; go_simp; refine (leqTw ⟨a1_x, c1_x, a2_x, c2_x, a3_x, c3_x, a4_x, c4_x⟩ ⟨a1_3, c1_3, a2_3, c2_3, a3_3, c3_3, a4_3, c4_3⟩ ⟨hs, ts, ns, r, hd, ac, rt, tm, ls, cm⟩ _ (tw_below O_x.is hHeld.2) I3).mono ?_; rintro e r3_ ⟨rfl, hb⟩; replace I3 := tw_below I3 hb; go_wp2_with fail; refine hK.out _ _ (HMK34.out _ (bel_tr hHeld.2 hb)) (fun hHeld => ?_); clear hK K)
    try simp only [pt]
    refine tk (i := 4) (v := ?v41) rfl ?c41 ?d41
    case c41 => (refine .inl ⟨by rfl, ?_⟩; intro w h; (try dsimp only at h); go_simp <;> with_reducible rfl)
    try simp only [pt]
    refine wpAnyH_done (by kernel_rfl) ?_ _; clear HMK34; have C := hHeld.2; clear hHeld; clear qx0 qx1 qx2 qx3 qx4 qx5 qx6 qx7 qx8 qx9 q00 q01 q02 q03 q04 q05 q06 q07 q08 q09; replace K0 := K0.next C; replace KE := KE.next C; replace K_W := K_W.next C; replace K_x := K_x.next C; replace K_y := K_y.next C; replace K_g := K_g.next C; replace I_W := tw_below I_W C; replace O_x := O_x.next C; replace Rz := row_keep Rz C; replace O_g := O_g.next C; replace B := bel_tr B C; replace D := bel_tr D C; clear C; obtain ⟨qy0, qy1, qy2, qy3, qy4, qy5, qy6, qy7, qy8⟩ := cells9 K_y; obtain ⟨qE0, qE1, qE2, qE3, qE4, qE5, qE6, qE7, qE8⟩ := cells9 KE; go_wp2_with fail; have HMK40 := Lib.hid (fun (W : World) (hW : Below r3_.heap.size r3_ W) => (⟨⟨(hW.cell (p := ⟨v5_.heap.size, 0, none⟩) (K_y.lt)).trans qy0, (hW.cell (p := ⟨v5_.heap.size, 1, none⟩) (K_y.lt)).trans qy1, (hW.cell (p := ⟨v5_.heap.size, 2, none⟩) (K_y.lt)).trans qy2, (hW.cell (p := ⟨v5_.heap.size, 3, none⟩) (K_y.lt)).trans qy3, (hW.cell (p := ⟨v5_.heap.size, 4, none⟩) (K_y.lt)).trans qy4, (hW.cell (p := ⟨v5_.heap.size, 5, none⟩) (K_y.lt)).trans qy5, (hW.cell (p := ⟨v5_.heap.size, 6, none⟩) (K_y.lt)).trans qy6, (hW.cell (p := ⟨v5_.heap.size, 7, none⟩) (K_y.lt)).trans qy7, (hW.cell (p := ⟨v5_.heap.size, 8, none⟩) (K_y.lt)).trans qy8, (hW.cell (p := ⟨w.heap.size + 1, 0, none⟩) (KE.lt)).trans qE0, (hW.cell (p := ⟨w.heap.size + 1, 1, none⟩) (KE.lt)).trans qE1, (hW.cell (p := ⟨w.heap.size + 1, 2, none⟩) (KE.lt)).trans qE2, (hW.cell (p := ⟨w.heap.size + 1, 3, none⟩) (KE.lt)).trans qE3, (hW.cell (p := ⟨w.heap.size + 1, 4, none⟩) (KE.lt)).trans qE4, (hW.cell (p := ⟨w.heap.size + 1, 5, none⟩) (KE.lt)).trans qE5, (hW.cell (p := ⟨w.heap.size + 1, 6, none⟩) (KE.lt)).trans qE6, (hW.cell (p := ⟨w.heap.size + 1, 7, none⟩) (KE.lt)).trans qE7, (hW.cell (p := ⟨w.heap.size + 1, 8, none⟩) (KE.lt)).trans qE8⟩, hW⟩ : (W.cell? ⟨v5_.heap.size, 0, none⟩ = some (.int .i64 k) ∧ W.cell? ⟨v5_.heap.size, 1, none⟩ = some (.int .i64 dk) ∧ W.cell? ⟨v5_.heap.size, 2, none⟩ = some (.int .i64 o) ∧ W.cell? ⟨v5_.heap.size, 3, none⟩ = some (.int .i64 tt) ∧ W.cell? ⟨v5_.heap.size, 4, none⟩ = some (.int .i64 n) ∧ W.cell? ⟨v5_.heap.size, 5, none⟩ = some (.int .i64 d) ∧ W.cell? ⟨v5_.heap.size, 6, none⟩ = some (.slice (some ⟨gz, 0, none⟩) zs.length zs.length) ∧ W.cell? ⟨v5_.heap.size, 7, none⟩ = some (.int .i64 at_) ∧ W.cell? ⟨v5_.heap.size, 8, none⟩ = some (.int .i64 nu) ∧ W.cell? ⟨w.heap.size + 1, 0, none⟩ = some (.int .i64 k) ∧ W.cell? ⟨w.heap.size + 1, 1, none⟩ = some (.int .i64 dk) ∧ W.cell? ⟨w.heap.size + 1, 2, none⟩ = some (.int .i64 o) ∧ W.cell? ⟨w.heap.size + 1, 3, none⟩ = some (.int .i64 tt) ∧ W.cell? ⟨w.heap.size + 1, 4, none⟩ = some (.int .i64 n) ∧ W.cell? ⟨w.heap.size + 1, 5, none⟩ = some (.int .i64 d) ∧ W.cell? ⟨w.heap.size + 1, 6, none⟩ = some (.slice ea1 zs.length ec1) ∧ W.cell? ⟨w.heap.size + 1, 7, none⟩ = some (.int .i64 at_) ∧ W.cell? ⟨w.heap.size + 1, 8, none⟩ = some (.int .i64 nu)) ∧ Below r3_.heap.size r3_ W))
    refine wp_region_held_drew (S := (fun w' => (w'.cell? ⟨v5_.heap.size, 0, none⟩ = some (.int .i64 k) ∧ w'.cell? ⟨v5_.heap.size, 1, none⟩ = some (.int .i64 dk) ∧ w'.cell? ⟨v5_.heap.size, 2, none⟩ = some (.int .i64 o) ∧ w'.cell? ⟨v5_.heap.size, 3, none⟩ = some (.int .i64 tt) ∧ w'.cell? ⟨v5_.heap.size, 4, none⟩ = some (.int .i64 n) ∧ w'.cell? ⟨v5_.heap.size, 5, none⟩ = some (.int .i64 d) ∧ w'.cell? ⟨v5_.heap.size, 6, none⟩ = some (.slice (some ⟨gz, 0, none⟩) zs.length zs.length) ∧ w'.cell? ⟨v5_.heap.size, 7, none⟩ = some (.int .i64 at_) ∧ w'.cell? ⟨v5_.heap.size, 8, none⟩ = some (.int .i64 nu) ∧ w'.cell? ⟨w.heap.size + 1, 0, none⟩ = some (.int .i64 k) ∧ w'.cell? ⟨w.heap.size + 1, 1, none⟩ = some (.int .i64 dk) ∧ w'.cell? ⟨w.heap.size + 1, 2, none⟩ = some (.int .i64 o) ∧ w'.cell? ⟨w.heap.size + 1, 3, none⟩ = some (.int .i64 tt) ∧ w'.cell? ⟨w.heap.size + 1, 4, none⟩ = some (.int .i64 n) ∧ w'.cell? ⟨w.heap.size + 1, 5, none⟩ = some (.int .i64 d) ∧ w'.cell? ⟨w.heap.size + 1, 6, none⟩ = some (.slice ea1 zs.length ec1) ∧ w'.cell? ⟨w.heap.size + 1, 7, none⟩ = some (.int .i64 at_) ∧ w'.cell? ⟨w.heap.size + 1, 8, none⟩ = some (.int .i64 nu)) ∧ Below r3_.heap.size r3_ w')) (by kernel_rfl) ?_ (fun hHeld => ?_)
    ·exact ⟨⟨qy0, qy1, qy2, qy3, qy4, qy5, qy6, qy7, qy8, qE0, qE1, qE2, qE3, qE4, qE5, qE6, qE7, qE8⟩, (Below.refl _ _).drew⟩
    refine tk (i := 0) (v := ?v42) rfl ?c42 ?d42
    case c42 => (refine .inl ⟨by rfl, ?_⟩; intro w h; (try dsimp only at h); go_simp <;> with_reducible rfl)
    try simp only [pt]
    refine tk (i := 1) (v := ?v43) rfl ?c43 ?d43
    case c43 => (refine .inl ⟨by rfl, ?_⟩; intro w h; (try dsimp only at h); go_simp <;> with_reducible rfl)
    try simp only [pt]
    refine wpAnyH_ready (rs := [2]) (by kernel_rfl) (by simp) (AllReadyH.cons (o := ?ooa43_q0) ?hia43_q0 (fun K hK => ?hka43_q0) AllReadyH.nil)
    case hia43_q0 => (simp only [gl]; rfl)
    case hka43_q0 =>
     (rw [if_pos (by rfl)]; go_simp; refine (ltoEv ea1 ec1 ⟨k, ⟨dk, o, tt, n, d, zs⟩, at_, nu⟩ _ (HZ.out _ (bel_tr B hHeld.2)) HZN.out).mono ?_; rintro e r5_ ⟨gz3, rfl, lgz3, R3, hb⟩; have I3 := row_ints R3; clear R3 lgz3; go_wp2_with fail; refine hK.out _ _ (HMK40.out _ (bel_tr hHeld.2 hb)) (fun hHeld => ?_); clear hK K)
     try simp only [pt]
     refine wpAnyH_ready (rs := [3]) (by kernel_rfl) (by simp) (AllReadyH.cons (o := ?ooa44_q0) ?hia44_q0 (fun K hK => ?hka44_q0) AllReadyH.nil)
     case hia44_q0 => (simp only [gl]; rfl)
     case hka44_q0 =>
      (rw [if_pos (by rfl)]; go_simp; refine (leqEv (some ⟨gz, 0, none⟩) (some ⟨gz3, 0, none⟩) zs.length zs.length ⟨k, ⟨dk, o, tt, n, d, zs⟩, at_, nu⟩ _ (ints_below (row_ints Rz) hHeld.2) I3 HZN.out).mono ?_; rintro e r6_ ⟨rfl, hb⟩; replace I3 := ints_below I3 hb; go_wp2_with fail; refine hK.out _ _ (HMK40.out _ (bel_tr hHeld.2 hb)) (fun hHeld => ?_); clear hK K)
      try simp only [pt]
      refine tk (i := 4) (v := ?v44) rfl ?c44 ?d44
      case c44 => (refine .inl ⟨by rfl, ?_⟩; intro w h; (try dsimp only at h); go_simp <;> with_reducible rfl)
      try simp only [pt]
      refine wpAnyH_done (by kernel_rfl) ?_ _; clear HMK40; have C := hHeld.2; clear hHeld; clear qy0 qy1 qy2 qy3 qy4 qy5 qy6 qy7 qy8 qE0 qE1 qE2 qE3 qE4 qE5 qE6 qE7 qE8; replace K0 := K0.next C; replace KE := KE.next C; replace K_W := K_W.next C; replace K_x := K_x.next C; replace K_y := K_y.next C; replace K_g := K_g.next C; replace I_W := tw_below I_W C; replace O_x := O_x.next C; replace Rz := row_keep Rz C; replace O_g := O_g.next C; replace B := bel_tr B C; replace D := bel_tr D C; clear C
      obtain ⟨N, hN⟩ : ∃ N : Nat, mkN ⟨hs, ts, ns, r, hd, ac, rt, tm, ls, cm⟩ = N := ⟨_, rfl⟩
      have HN := Lib.hid hN
      have hNs : N ≤ 20000000 := by rw [← hN]; have := O_x.n1; have := O_x.n2; have := O_x.n3; have := O_x.n4; unfold mkN; dsimp only at *; omega
      obtain ⟨M_, hM⟩ : ∃ N : Nat, mkN ⟨hsR, tsR, nsR, rR, hdR, acR, rtR, tmR, lsR, cmR⟩ = N := ⟨_, rfl⟩
      have HM := Lib.hid hM
      have hMs : M_ ≤ 20000000 := by rw [← hM]; have := O_g.n1; have := O_g.n2; have := O_g.n3; have := O_g.n4; unfold mkN; dsimp only at *; omega
      clear hN hM; obtain ⟨qx0, qx1, qx2, qx3, qx4, qx5, qx6, qx7, qx8, qx9⟩ := tcl K_x; go_wp2_with fail; refine (mkTw ⟨a1_x, c1_x, a2_x, c2_x, a3_x, c3_x, a4_x, c4_x⟩ ⟨hs, ts, ns, r, hd, ac, rt, tm, ls, cm⟩ _ 1 _ O_x (by omega) (by omega)).mono ?_; rintro e v10_ ⟨rfl, M, G⟩; rw [HN.out]; clear M; clear qx0 qx1 qx2 qx3 qx4 qx5 qx6 qx7 qx8 qx9; replace K_x := K_x.off G (O_x.not_own K_x); replace K_g := K_g.off G (O_x.not_own K_g); replace K_y := K_y.off G (O_x.not_ownE K_y); replace Rz := row_off Rz G (fun c => by have := XL.out _ c; omega); replace O_g := O_g.off G (fun q hq => by have := XL.out q hq; omega); replace D := OffW.below D G (fun q hq => (XL.out q hq).1); replace B := OffW.below B G (fun q hq => Nat.le_trans hU (XL.out q hq).1); replace I_W := tw_below I_W0.out D
      skip
      replace K0 := HK0.out.next D; replace KE := HKE.out.next D; replace K_W := HKW.out.next D; clear G O_x; obtain ⟨qy0, qy1, qy2, qy3, qy4, qy5, qy6, qy7, qy8⟩ := cells9 K_y; go_wp2_with fail; refine (lmarkEv gz zs.length k dk o tt n d at_ nu (1 + (N : Int)) zs _ Rz HZN.out (by omega) (by omega)).mono ?_; rintro e v11_ ⟨rfl, G⟩; clear qy0 qy1 qy2 qy3 qy4 qy5 qy6 qy7 qy8; replace K_g := K_g.off G (show ¬ (v7_.heap.size) = gz from by omega); replace O_g := O_g.off G (fun q hq => by have hq2 : q = gz := hq; omega); replace D := OffW.below D G (fun q hq => by have hq2 : q = gz := hq; omega); replace B := OffW.below B G (fun q hq => by have hq2 : q = gz := hq; omega); replace I_W := tw_below I_W0.out D; replace K0 := HK0.out.next D; replace KE := HKE.out.next D; replace K_W := HKW.out.next D; clear G K_x K_y Rz; have gk : decide ((1 : Int) + (N : Int) + (zs.length : Int) < 0) = false := decide_eq_false (by omega); obtain ⟨qg0, qg1, qg2, qg3, qg4, qg5, qg6, qg7, qg8, qg9⟩ := tcl K_g; obtain ⟨qW0, qW1, qW2, qW3, qW4, qW5, qW6, qW7, qW8, qW9⟩ := tcl K_W; go_wp2_with fail; refine (leqTw ⟨a1_g, c1_g, a2_g, c2_g, a3_g, c3_g, a4_g, c4_g⟩ ⟨a1_W, c1_W, a2_W, c2_W, a3_W, c3_W, a4_W, c4_W⟩ ⟨hsR, tsR, nsR, rR, hdR, acR, rtR, tmR, lsR, cmR⟩ _ O_g.is I_W).mono ?_; rintro e v12_ ⟨rfl, C⟩; clear qg0 qg1 qg2 qg3 qg4 qg5 qg6 qg7 qg8 qg9 qW0 qW1 qW2 qW3 qW4 qW5 qW6 qW7 qW8 qW9; replace K0 := K0.next C; replace KE := KE.next C; replace K_W := K_W.next C; replace K_g := K_g.next C; replace I_W := tw_below I_W C
      replace O_g := O_g.next C; replace B := bel_tr B C; replace D := bel_tr D C; clear C; obtain ⟨qg0, qg1, qg2, qg3, qg4, qg5, qg6, qg7, qg8, qg9⟩ := tcl K_g; go_wp2_with fail; refine (mkTw ⟨a1_g, c1_g, a2_g, c2_g, a3_g, c3_g, a4_g, c4_g⟩ ⟨hsR, tsR, nsR, rR, hdR, acR, rtR, tmR, lsR, cmR⟩ _ 1 _ O_g (by omega) (by omega)).mono ?_; rintro e v13_ ⟨rfl, M, G⟩; rw [HM.out]; clear qg0 qg1 qg2 qg3 qg4 qg5 qg6 qg7 qg8 qg9
      have GL := fun q (hq : TA.own ⟨a1_g, c1_g, a2_g, c2_g, a3_g, c3_g, a4_g, c4_g⟩ q) => (O_g.own_ge hq).1
      replace K_g := K_g.off G (O_g.not_own K_g); replace D := OffW.below D G (fun q hq => Nat.le_trans hbg (GL q hq)); replace B := OffW.below B G (fun q hq => Nat.le_trans hU (Nat.le_trans hbg (GL q hq))); replace I_W := tw_below I_W0.out D; replace K0 := HK0.out.next D; replace KE := HKE.out.next D; replace K_W := HKW.out.next D; clear G O_g GL; have gm : decide ((1 : Int) + (M_ : Int) < 0) = false := decide_eq_false (by omega)
      have gn : ((1 : Int) + (M_ : Int) != 1 + (M_ : Int)) = false := by simp
      obtain ⟨qg0, qg1, qg2, qg3, qg4, qg5, qg6, qg7, qg8, qg9⟩ := tcl K_g; go_wp2_with fail; refine (hkTw ⟨a1_g, c1_g, a2_g, c2_g, a3_g, c3_g, a4_g, c4_g⟩ ⟨hsR, tsR, nsR, rR, hdR, acR, rtR, tmR, lsR, cmR⟩ _ 1 _ M (by omega) (by omega)).mono ?_; rintro e v14_ ⟨rfl, C⟩; rw [HM.out]; clear qg0 qg1 qg2 qg3 qg4 qg5 qg6 qg7 qg8 qg9; replace K0 := K0.next C; replace KE := KE.next C; replace K_W := K_W.next C; replace K_g := K_g.next C; replace I_W := tw_below I_W C; replace M := M.next C; replace B := bel_tr B C; replace D := bel_tr D C; clear C; obtain ⟨q00, q01, q02, q03, q04, q05, q06, q07, q08, q09⟩ := tcl K0; obtain ⟨qE0, qE1, qE2, qE3, qE4, qE5, qE6, qE7, qE8⟩ := cells9 KE
      go_upto_region 31 with fail
      go_cut [15, 16] (fun s15 s16 wx => ∃ (g : Nat) (p : TA), s15 = .pointer (some ⟨g, 0, none⟩) ∧ s16 = .bool bR ∧ Blk wx g 45 #[.slice p.a1 hsR.length p.c1, .slice p.a2 tsR.length p.c2, .slice p.a3 nsR.length p.c3, .int .i64 rR, .int .i64 hdR, .slice p.a4 acR.length p.c4, .int .i64 rtR, .int .i64 tmR, .int .i64 lsR, .int .i64 cmR] ∧ TwO wx v14_.heap.size p ⟨hsR, tsR, nsR, rR, hdR, acR, rtR, tmR, lsR, cmR⟩ ∧ Below v14_.heap.size v14_ wx ∧ v14_.heap.size ≤ g)
      case first =>
       have L0 := K0.lt; have LE := KE.lt; have HMK46 := Lib.hid (fun (W : World) (hW : Below v14_.heap.size v14_ W) => (⟨⟨(hW.cell (p := ⟨w.heap.size, 0, none⟩) (L0)).trans q00, (hW.cell (p := ⟨w.heap.size, 1, none⟩) (L0)).trans q01, (hW.cell (p := ⟨w.heap.size, 2, none⟩) (L0)).trans q02, (hW.cell (p := ⟨w.heap.size, 3, none⟩) (L0)).trans q03, (hW.cell (p := ⟨w.heap.size, 4, none⟩) (L0)).trans q04, (hW.cell (p := ⟨w.heap.size, 5, none⟩) (L0)).trans q05, (hW.cell (p := ⟨w.heap.size, 6, none⟩) (L0)).trans q06, (hW.cell (p := ⟨w.heap.size, 7, none⟩) (L0)).trans q07, (hW.cell (p := ⟨w.heap.size, 8, none⟩) (L0)).trans q08, (hW.cell (p := ⟨w.heap.size, 9, none⟩) (L0)).trans q09, (hW.cell (p := ⟨w.heap.size + 1, 0, none⟩) (LE)).trans qE0, (hW.cell (p := ⟨w.heap.size + 1, 1, none⟩) (LE)).trans qE1, (hW.cell (p := ⟨w.heap.size + 1, 2, none⟩) (LE)).trans qE2, (hW.cell (p := ⟨w.heap.size + 1, 3, none⟩) (LE)).trans qE3, (hW.cell (p := ⟨w.heap.size + 1, 4, none⟩) (LE)).trans qE4, (hW.cell (p := ⟨w.heap.size + 1, 5, none⟩) (LE)).trans qE5, (hW.cell (p := ⟨w.heap.size + 1, 6, none⟩) (LE)).trans qE6, (hW.cell (p := ⟨w.heap.size + 1, 7, none⟩) (LE)).trans qE7, (hW.cell (p := ⟨w.heap.size + 1, 8, none⟩) (LE)).trans qE8⟩, hW⟩ : (W.cell? ⟨w.heap.size, 0, none⟩ = some (.slice a1_0 hs.length c1_0) ∧ W.cell? ⟨w.heap.size, 1, none⟩ = some (.slice a2_0 ts.length c2_0) ∧ W.cell? ⟨w.heap.size, 2, none⟩ = some (.slice a3_0 ns.length c3_0) ∧ W.cell? ⟨w.heap.size, 3, none⟩ = some (.int .i64 r) ∧ W.cell? ⟨w.heap.size, 4, none⟩ = some (.int .i64 hd) ∧ W.cell? ⟨w.heap.size, 5, none⟩ = some (.slice a4_0 ac.length c4_0) ∧ W.cell? ⟨w.heap.size, 6, none⟩ = some (.int .i64 rt) ∧ W.cell? ⟨w.heap.size, 7, none⟩ = some (.int .i64 tm) ∧ W.cell? ⟨w.heap.size, 8, none⟩ = some (.int .i64 ls) ∧ W.cell? ⟨w.heap.size, 9, none⟩ = some (.int .i64 cm) ∧ W.cell? ⟨w.heap.size + 1, 0, none⟩ = some (.int .i64 k) ∧ W.cell? ⟨w.heap.size + 1, 1, none⟩ = some (.int .i64 dk) ∧ W.cell? ⟨w.heap.size + 1, 2, none⟩ = some (.int .i64 o) ∧ W.cell? ⟨w.heap.size + 1, 3, none⟩ = some (.int .i64 tt) ∧ W.cell? ⟨w.heap.size + 1, 4, none⟩ = some (.int .i64 n) ∧ W.cell? ⟨w.heap.size + 1, 5, none⟩ = some (.int .i64 d) ∧ W.cell? ⟨w.heap.size + 1, 6, none⟩ = some (.slice ea1 zs.length ec1) ∧ W.cell? ⟨w.heap.size + 1, 7, none⟩ = some (.int .i64 at_) ∧ W.cell? ⟨w.heap.size + 1, 8, none⟩ = some (.int .i64 nu)) ∧ Below v14_.heap.size v14_ W))
       refine wp_region_held_drew (S := (fun w' => (w'.cell? ⟨w.heap.size, 0, none⟩ = some (.slice a1_0 hs.length c1_0) ∧ w'.cell? ⟨w.heap.size, 1, none⟩ = some (.slice a2_0 ts.length c2_0) ∧ w'.cell? ⟨w.heap.size, 2, none⟩ = some (.slice a3_0 ns.length c3_0) ∧ w'.cell? ⟨w.heap.size, 3, none⟩ = some (.int .i64 r) ∧ w'.cell? ⟨w.heap.size, 4, none⟩ = some (.int .i64 hd) ∧ w'.cell? ⟨w.heap.size, 5, none⟩ = some (.slice a4_0 ac.length c4_0) ∧ w'.cell? ⟨w.heap.size, 6, none⟩ = some (.int .i64 rt) ∧ w'.cell? ⟨w.heap.size, 7, none⟩ = some (.int .i64 tm) ∧ w'.cell? ⟨w.heap.size, 8, none⟩ = some (.int .i64 ls) ∧ w'.cell? ⟨w.heap.size, 9, none⟩ = some (.int .i64 cm) ∧ w'.cell? ⟨w.heap.size + 1, 0, none⟩ = some (.int .i64 k) ∧ w'.cell? ⟨w.heap.size + 1, 1, none⟩ = some (.int .i64 dk) ∧ w'.cell? ⟨w.heap.size + 1, 2, none⟩ = some (.int .i64 o) ∧ w'.cell? ⟨w.heap.size + 1, 3, none⟩ = some (.int .i64 tt) ∧ w'.cell? ⟨w.heap.size + 1, 4, none⟩ = some (.int .i64 n) ∧ w'.cell? ⟨w.heap.size + 1, 5, none⟩ = some (.int .i64 d) ∧ w'.cell? ⟨w.heap.size + 1, 6, none⟩ = some (.slice ea1 zs.length ec1) ∧ w'.cell? ⟨w.heap.size + 1, 7, none⟩ = some (.int .i64 at_) ∧ w'.cell? ⟨w.heap.size + 1, 8, none⟩ = some (.int .i64 nu)) ∧ Below v14_.heap.size v14_ w')) (by kernel_rfl) ?_ (fun hHeld => ?_)
       ·exact ⟨⟨q00, q01, q02, q03, q04, q05, q06, q07, q08, q09, qE0, qE1, qE2, qE3, qE4, qE5, qE6, qE7, qE8⟩, (Below.refl _ _).drew⟩
       refine tk (i := 0) (v := ?v45) rfl ?c45 ?d45
       case c45 => (refine .inl ⟨by rfl, ?_⟩; intro w h; (try dsimp only at h); go_simp <;> with_reducible rfl)
       try simp only [pt]
       refine tk (i := 2) (v := ?v46) rfl ?c46 ?d46
       case c46 => (refine .inl ⟨by rfl, ?_⟩; intro w h; (try dsimp only at h); go_simp <;> with_reducible rfl)
       try simp only [pt]
       refine wpAnyH_ready (rs := [1, 8]) (by kernel_rfl) (by simp) (AllReadyH.cons (o := ?ooa49_q0) ?hia49_q0 (fun K hK => ?hka49_q0) (AllReadyH.cons (o := ?ooa49_q1) ?hia49_q1 (fun K hK => ?hka49_q1) AllReadyH.nil))
       case hia49_q0 => (simp only [gl]; rfl)
       case hia49_q1 => (simp only [gl]; rfl)
       case hka49_q0 =>
        (rw [if_pos (by rfl)]; go_simp; refine (ltoTw ⟨a1_0, c1_0, a2_0, c2_0, a3_0, c3_0, a4_0, c4_0⟩ ⟨hs, ts, ns, r, hd, ac, rt, tm, ls, cm⟩ _ (HI.out _ (bel_tr B hHeld.2))).mono ?_; rintro e p1_ ⟨⟨a1_a, c1_a, a2_a, c2_a, a3_a, c3_a, a4_a, c4_a⟩, rfl, O_a, hb⟩; have Ia := O_a.is; clear O_a; go_wp2_with fail; refine hK.out _ _ (HMK46.out _ (bel_tr hHeld.2 hb)) (fun hHeld => ?_); clear hK K)
        try simp only [pt]
        refine wpAnyH_ready (rs := [3, 8]) (by kernel_rfl) (by simp) (AllReadyH.cons (o := ?ooa50_q0) ?hia50_q0 (fun K hK => ?hka50_q0) (AllReadyH.cons (o := ?ooa50_q1) ?hia50_q1 (fun K hK => ?hka50_q1) AllReadyH.nil))
        case hia50_q0 => (simp only [gl]; rfl)
        case hia50_q1 => (simp only [gl]; rfl)
        case hka50_q0 =>
         (rw [if_pos (by rfl)]; go_simp; refine (ltoEv ea1 ec1 ⟨k, ⟨dk, o, tt, n, d, zs⟩, at_, nu⟩ _ (HZ.out _ (bel_tr B hHeld.2)) HZN.out).mono ?_; rintro e p3_ ⟨gz, rfl, lgz, Rz, hb⟩; have Iz := row_ints Rz; clear Rz lgz; replace Ia := tw_below Ia hb; go_wp2_with fail; refine hK.out _ _ (HMK46.out _ (bel_tr hHeld.2 hb)) (fun hHeld => ?_); clear hK K)
         try simp only [pt]
         refine wpAnyH_ready (rs := [4, 8]) (by kernel_rfl) (by simp) (AllReadyH.cons (o := ?ooa51_q0) ?hia51_q0 (fun K hK => ?hka51_q0) (AllReadyH.cons (o := ?ooa51_q1) ?hia51_q1 (fun K hK => ?hka51_q1) AllReadyH.nil))
         case hia51_q0 => (simp only [gl]; rfl)
         case hia51_q1 => (simp only [gl]; rfl)
         case hka51_q0 =>
          (rw [if_pos (by rfl)]; go_simp; refine (CI.out ⟨a1_a, c1_a, a2_a, c2_a, a3_a, c3_a, a4_a, c4_a⟩ _ gz Ia Iz).mono ?_; rintro e p4_ ⟨⟨a1_w, c1_w, a2_w, c2_w, a3_w, c3_w, a4_w, c4_w⟩, he, O_w, hb⟩; change e = .returned (.tuple #[.agg #[.slice a1_w hsR.length c1_w, .slice a2_w tsR.length c2_w, .slice a3_w nsR.length c3_w, .int .i64 rR, .int .i64 hdR, .slice a4_w acR.length c4_w, .int .i64 rtR, .int .i64 tmR, .int .i64 lsR, .int .i64 cmR], .bool bR]) at he; subst he; replace O_w := O_w.base hHeld.2.size; replace Ia := tw_below Ia hb; replace Iz := ints_below Iz hb; go_wp2_with fail; refine hK.out _ _ (HMK46.out _ (bel_tr hHeld.2 hb)) (fun hHeld => ?_); clear hK K)
          try simp only [pt]
          refine tk (i := 5) (v := ?v47) rfl ?c47 ?d47
          case c47 => (refine .inl ⟨by rfl, ?_⟩; intro w h; (try dsimp only at h); go_simp <;> with_reducible rfl)
          try simp only [pt]
          refine tk (i := 6) (v := ?v48) rfl ?c48 ?d48
          case c48 => (refine .inl ⟨by rfl, ?_⟩; intro w h; (try dsimp only at h); go_simp <;> with_reducible rfl)
          try simp only [pt]
          refine tk (i := 7) (v := ?v49) rfl ?c49 ?d49
          case c49 => (refine .inl ⟨by rfl, ?_⟩; intro w h; (try dsimp only at h); go_simp <;> with_reducible rfl)
          try simp only [pt]
          refine wpAnyH_ready (rs := [8]) (by kernel_rfl) (by simp) (AllReadyH.cons (o := ?ooa55_q0) ?hia55_q0 (fun K hK => ?hka55_q0) AllReadyH.nil)
          case hia55_q0 => (simp only [gl]; rfl)
          case hka55_q0 =>
           (rw [if_pos (by rfl)]; go_simp; replace O_w := O_w.next ((Below.refl _ p4_).alloc (Nat.le_refl _) (.cells #[.slice none 0 0, .slice none 0 0, .slice none 0 0, .int .i64 0, .int .i64 0, .slice none 0 0, .int .i64 0, .int .i64 0, .int .i64 0, .int .i64 0] 45)); have F8 := Lib.hid (Blk.new p4_ 45 #[.slice none 0 0, .slice none 0 0, .slice none 0 0, .int .i64 0, .int .i64 0, .slice none 0 0, .int .i64 0, .int .i64 0, .int .i64 0, .int .i64 0]); have EE := HMK46.out _ (hHeld.2.alloc hHeld.2.size (.cells #[.slice none 0 0, .slice none 0 0, .slice none 0 0, .int .i64 0, .int .i64 0, .slice none 0 0, .int .i64 0, .int .i64 0, .int .i64 0, .int .i64 0] 45)); have L8 := hHeld.2.size; generalize p4_.alloc (.cells #[.slice none 0 0, .slice none 0 0, .slice none 0 0, .int .i64 0, .int .i64 0, .slice none 0 0, .int .i64 0, .int .i64 0, .int .i64 0, .int .i64 0] 45) = W8a at F8 EE O_w ⊢; generalize p4_.heap.size = g8 at F8 L8 ⊢; refine hK.out _ _ (EE) (fun hHeld => ?_); clear hK K)
           try simp only [pt]
           refine wpAnyH_ready (rs := [9]) (by kernel_rfl) (by simp) (AllReadyH.cons (o := ?ooa56_q0) ?hia56_q0 (fun K hK => ?hka56_q0) AllReadyH.nil)
           case hia56_q0 => (simp only [gl]; rfl)
           case hka56_q0 =>
            (rw [if_pos (by rfl)]; obtain ⟨fc0, fc1, fc2, fc3, fc4, fc5, fc6, fc7, fc8, fc9⟩ := tcl F8.out; have ff0 := F8.out.frozen 0; have ff1 := F8.out.frozen 1; have ff2 := F8.out.frozen 2; have ff3 := F8.out.frozen 3; have ff4 := F8.out.frozen 4; have ff5 := F8.out.frozen 5; have ff6 := F8.out.frozen 6; have ff7 := F8.out.frozen 7; have ff8 := F8.out.frozen 8; have ff9 := F8.out.frozen 9; go_simp; obtain ⟨W8_56s, hy⟩ : ∃ y, y = sets10 W8a g8 (.slice a1_w hsR.length c1_w) (.slice a2_w tsR.length c2_w) (.slice a3_w nsR.length c3_w) (.int .i64 rR) (.int .i64 hdR) (.slice a4_w acR.length c4_w) (.int .i64 rtR) (.int .i64 tmR) (.int .i64 lsR) (.int .i64 cmR) := ⟨_, rfl⟩; change K _ (sets10 _ _ _ _ _ _ _ _ _ _ _ _); rw [← hy]; have EE := HMK46.out _ (X10B hHeld.2 hy L8); replace O_w := X10o O_w F8.out hy; replace F8 := Lib.hid (X10b F8.out hy); clear hy fc0 ff0 fc1 ff1 fc2 ff2 fc3 ff3 fc4 ff4 fc5 ff5 fc6 ff6 fc7 ff7 fc8 ff8 fc9 ff9; refine hK.out _ _ (EE) (fun hHeld => ?_); clear hK K)
            try simp only [pt]
            refine tk (i := 10) (v := ?v4a) rfl ?c4a ?d4a
            case c4a => (refine .inl ⟨by rfl, ?_⟩; intro w h; (try dsimp only at h); go_simp <;> with_reducible rfl)
            try simp only [pt]
            refine wpAnyH_done (by kernel_rfl) ?_ _; clear HMK46; go_wp2_with fail
            go_meet
            exact ⟨g8, ⟨a1_w, c1_w, a2_w, c2_w, a3_w, c3_w, a4_w, c4_w⟩, rfl, rfl, F8.out, O_w, hHeld.2, L8⟩
         case hka51_q1 =>
          (rw [if_pos (by rfl)]; go_simp; replace Ia := tw_below Ia ((Below.refl _ p3_).alloc (Nat.le_refl _) (.cells #[.slice none 0 0, .slice none 0 0, .slice none 0 0, .int .i64 0, .int .i64 0, .slice none 0 0, .int .i64 0, .int .i64 0, .int .i64 0, .int .i64 0] 45)); replace Iz := ints_below Iz ((Below.refl _ p3_).alloc (Nat.le_refl _) (.cells #[.slice none 0 0, .slice none 0 0, .slice none 0 0, .int .i64 0, .int .i64 0, .slice none 0 0, .int .i64 0, .int .i64 0, .int .i64 0, .int .i64 0] 45)); have F8 := Lib.hid (Blk.new p3_ 45 #[.slice none 0 0, .slice none 0 0, .slice none 0 0, .int .i64 0, .int .i64 0, .slice none 0 0, .int .i64 0, .int .i64 0, .int .i64 0, .int .i64 0]); have EE := HMK46.out _ (hHeld.2.alloc hHeld.2.size (.cells #[.slice none 0 0, .slice none 0 0, .slice none 0 0, .int .i64 0, .int .i64 0, .slice none 0 0, .int .i64 0, .int .i64 0, .int .i64 0, .int .i64 0] 45)); have L8 := hHeld.2.size; generalize p3_.alloc (.cells #[.slice none 0 0, .slice none 0 0, .slice none 0 0, .int .i64 0, .int .i64 0, .slice none 0 0, .int .i64 0, .int .i64 0, .int .i64 0, .int .i64 0] 45) = W8a at F8 EE Ia Iz ⊢; generalize p3_.heap.size = g8 at F8 L8 ⊢; refine hK.out _ _ (EE) (fun hHeld => ?_); clear hK K)
          try simp only [pt]
          refine wpAnyH_ready (rs := [4]) (by kernel_rfl) (by simp) (AllReadyH.cons (o := ?ooa58_q0) ?hia58_q0 (fun K hK => ?hka58_q0) AllReadyH.nil)
          case hia58_q0 => (simp only [gl]; rfl)
          case hka58_q0 =>
           (rw [if_pos (by rfl)]; go_simp; refine (CI.out ⟨a1_a, c1_a, a2_a, c2_a, a3_a, c3_a, a4_a, c4_a⟩ _ gz Ia Iz).mono ?_; rintro e p4_ ⟨⟨a1_w, c1_w, a2_w, c2_w, a3_w, c3_w, a4_w, c4_w⟩, he, O_w, hb⟩; change e = .returned (.tuple #[.agg #[.slice a1_w hsR.length c1_w, .slice a2_w tsR.length c2_w, .slice a3_w nsR.length c3_w, .int .i64 rR, .int .i64 hdR, .slice a4_w acR.length c4_w, .int .i64 rtR, .int .i64 tmR, .int .i64 lsR, .int .i64 cmR], .bool bR]) at he; subst he; replace O_w := O_w.base hHeld.2.size; replace Ia := tw_below Ia hb; replace Iz := ints_below Iz hb; replace F8 := Lib.hid (F8.out.next hb); go_wp2_with fail; refine hK.out _ _ (HMK46.out _ (bel_tr hHeld.2 hb)) (fun hHeld => ?_); clear hK K)
           try simp only [pt]
           refine tk (i := 5) (v := ?v4b) rfl ?c4b ?d4b
           case c4b => (refine .inl ⟨by rfl, ?_⟩; intro w h; (try dsimp only at h); go_simp <;> with_reducible rfl)
           try simp only [pt]
           refine tk (i := 6) (v := ?v4c) rfl ?c4c ?d4c
           case c4c => (refine .inl ⟨by rfl, ?_⟩; intro w h; (try dsimp only at h); go_simp <;> with_reducible rfl)
           try simp only [pt]
           refine tk (i := 7) (v := ?v4d) rfl ?c4d ?d4d
           case c4d => (refine .inl ⟨by rfl, ?_⟩; intro w h; (try dsimp only at h); go_simp <;> with_reducible rfl)
           try simp only [pt]
           refine wpAnyH_ready (rs := [9]) (by kernel_rfl) (by simp) (AllReadyH.cons (o := ?ooa62_q0) ?hia62_q0 (fun K hK => ?hka62_q0) AllReadyH.nil)
           case hia62_q0 => (simp only [gl]; rfl)
           case hka62_q0 =>
            (rw [if_pos (by rfl)]; obtain ⟨fc0, fc1, fc2, fc3, fc4, fc5, fc6, fc7, fc8, fc9⟩ := tcl F8.out; have ff0 := F8.out.frozen 0; have ff1 := F8.out.frozen 1; have ff2 := F8.out.frozen 2; have ff3 := F8.out.frozen 3; have ff4 := F8.out.frozen 4; have ff5 := F8.out.frozen 5; have ff6 := F8.out.frozen 6; have ff7 := F8.out.frozen 7; have ff8 := F8.out.frozen 8; have ff9 := F8.out.frozen 9; go_simp; obtain ⟨W8_62s, hy⟩ : ∃ y, y = sets10 p4_ g8 (.slice a1_w hsR.length c1_w) (.slice a2_w tsR.length c2_w) (.slice a3_w nsR.length c3_w) (.int .i64 rR) (.int .i64 hdR) (.slice a4_w acR.length c4_w) (.int .i64 rtR) (.int .i64 tmR) (.int .i64 lsR) (.int .i64 cmR) := ⟨_, rfl⟩; change K _ (sets10 _ _ _ _ _ _ _ _ _ _ _ _); rw [← hy]; have EE := HMK46.out _ (X10B hHeld.2 hy L8); replace O_w := X10o O_w F8.out hy; replace F8 := Lib.hid (X10b F8.out hy); clear hy fc0 ff0 fc1 ff1 fc2 ff2 fc3 ff3 fc4 ff4 fc5 ff5 fc6 ff6 fc7 ff7 fc8 ff8 fc9 ff9; refine hK.out _ _ (EE) (fun hHeld => ?_); clear hK K)
            try simp only [pt]
            refine tk (i := 10) (v := ?v4e) rfl ?c4e ?d4e
            case c4e => (refine .inl ⟨by rfl, ?_⟩; intro w h; (try dsimp only at h); go_simp <;> with_reducible rfl)
            try simp only [pt]
            refine wpAnyH_done (by kernel_rfl) ?_ _; clear HMK46; go_wp2_with fail
            go_meet
            exact ⟨g8, ⟨a1_w, c1_w, a2_w, c2_w, a3_w, c3_w, a4_w, c4_w⟩, rfl, rfl, F8.out, O_w, hHeld.2, L8⟩
        case hka50_q1 =>
         (rw [if_pos (by rfl)]; go_simp; replace Ia := tw_below Ia ((Below.refl _ p1_).alloc (Nat.le_refl _) (.cells #[.slice none 0 0, .slice none 0 0, .slice none 0 0, .int .i64 0, .int .i64 0, .slice none 0 0, .int .i64 0, .int .i64 0, .int .i64 0, .int .i64 0] 45)); have F8 := Lib.hid (Blk.new p1_ 45 #[.slice none 0 0, .slice none 0 0, .slice none 0 0, .int .i64 0, .int .i64 0, .slice none 0 0, .int .i64 0, .int .i64 0, .int .i64 0, .int .i64 0]); have EE := HMK46.out _ (hHeld.2.alloc hHeld.2.size (.cells #[.slice none 0 0, .slice none 0 0, .slice none 0 0, .int .i64 0, .int .i64 0, .slice none 0 0, .int .i64 0, .int .i64 0, .int .i64 0, .int .i64 0] 45)); have L8 := hHeld.2.size; generalize p1_.alloc (.cells #[.slice none 0 0, .slice none 0 0, .slice none 0 0, .int .i64 0, .int .i64 0, .slice none 0 0, .int .i64 0, .int .i64 0, .int .i64 0, .int .i64 0] 45) = W8a at F8 EE Ia ⊢; generalize p1_.heap.size = g8 at F8 L8 ⊢; refine hK.out _ _ (EE) (fun hHeld => ?_); clear hK K)
         try simp only [pt]
         refine wpAnyH_ready (rs := [3]) (by kernel_rfl) (by simp) (AllReadyH.cons (o := ?ooa64_q0) ?hia64_q0 (fun K hK => ?hka64_q0) AllReadyH.nil)
         case hia64_q0 => (simp only [gl]; rfl)
         case hka64_q0 =>
          (rw [if_pos (by rfl)]; go_simp; refine (ltoEv ea1 ec1 ⟨k, ⟨dk, o, tt, n, d, zs⟩, at_, nu⟩ _ (HZ.out _ (bel_tr B hHeld.2)) HZN.out).mono ?_; rintro e p3_ ⟨gz, rfl, lgz, Rz, hb⟩; have Iz := row_ints Rz; clear Rz lgz; replace Ia := tw_below Ia hb; replace F8 := Lib.hid (F8.out.next hb); go_wp2_with fail; refine hK.out _ _ (HMK46.out _ (bel_tr hHeld.2 hb)) (fun hHeld => ?_); clear hK K)
          try simp only [pt]
          refine wpAnyH_ready (rs := [4]) (by kernel_rfl) (by simp) (AllReadyH.cons (o := ?ooa65_q0) ?hia65_q0 (fun K hK => ?hka65_q0) AllReadyH.nil)
          case hia65_q0 => (simp only [gl]; rfl)
          case hka65_q0 =>
           (rw [if_pos (by rfl)]; go_simp; refine (CI.out ⟨a1_a, c1_a, a2_a, c2_a, a3_a, c3_a, a4_a, c4_a⟩ _ gz Ia Iz).mono ?_; rintro e p4_ ⟨⟨a1_w, c1_w, a2_w, c2_w, a3_w, c3_w, a4_w, c4_w⟩, he, O_w, hb⟩; change e = .returned (.tuple #[.agg #[.slice a1_w hsR.length c1_w, .slice a2_w tsR.length c2_w, .slice a3_w nsR.length c3_w, .int .i64 rR, .int .i64 hdR, .slice a4_w acR.length c4_w, .int .i64 rtR, .int .i64 tmR, .int .i64 lsR, .int .i64 cmR], .bool bR]) at he; subst he; replace O_w := O_w.base hHeld.2.size; replace Ia := tw_below Ia hb; replace F8 := Lib.hid (F8.out.next hb); replace Iz := ints_below Iz hb; go_wp2_with fail; refine hK.out _ _ (HMK46.out _ (bel_tr hHeld.2 hb)) (fun hHeld => ?_); clear hK K)
           try simp only [pt]
           refine tk (i := 5) (v := ?v4f) rfl ?c4f ?d4f
           case c4f => (refine .inl ⟨by rfl, ?_⟩; intro w h; (try dsimp only at h); go_simp <;> with_reducible rfl)
           try simp only [pt]
           refine tk (i := 6) (v := ?v50) rfl ?c50 ?d50
           case c50 => (refine .inl ⟨by rfl, ?_⟩; intro w h; (try dsimp only at h); go_simp <;> with_reducible rfl)
           try simp only [pt]
           refine tk (i := 7) (v := ?v51) rfl ?c51 ?d51
           case c51 => (refine .inl ⟨by rfl, ?_⟩; intro w h; (try dsimp only at h); go_simp <;> with_reducible rfl)
           try simp only [pt]
           refine wpAnyH_ready (rs := [9]) (by kernel_rfl) (by simp) (AllReadyH.cons (o := ?ooa69_q0) ?hia69_q0 (fun K hK => ?hka69_q0) AllReadyH.nil)
           case hia69_q0 => (simp only [gl]; rfl)
           case hka69_q0 =>
            (rw [if_pos (by rfl)]; obtain ⟨fc0, fc1, fc2, fc3, fc4, fc5, fc6, fc7, fc8, fc9⟩ := tcl F8.out; have ff0 := F8.out.frozen 0; have ff1 := F8.out.frozen 1; have ff2 := F8.out.frozen 2; have ff3 := F8.out.frozen 3; have ff4 := F8.out.frozen 4; have ff5 := F8.out.frozen 5; have ff6 := F8.out.frozen 6; have ff7 := F8.out.frozen 7; have ff8 := F8.out.frozen 8; have ff9 := F8.out.frozen 9; go_simp; obtain ⟨W8_69s, hy⟩ : ∃ y, y = sets10 p4_ g8 (.slice a1_w hsR.length c1_w) (.slice a2_w tsR.length c2_w) (.slice a3_w nsR.length c3_w) (.int .i64 rR) (.int .i64 hdR) (.slice a4_w acR.length c4_w) (.int .i64 rtR) (.int .i64 tmR) (.int .i64 lsR) (.int .i64 cmR) := ⟨_, rfl⟩; change K _ (sets10 _ _ _ _ _ _ _ _ _ _ _ _); rw [← hy]; have EE := HMK46.out _ (X10B hHeld.2 hy L8); replace O_w := X10o O_w F8.out hy; replace F8 := Lib.hid (X10b F8.out hy); clear hy fc0 ff0 fc1 ff1 fc2 ff2 fc3 ff3 fc4 ff4 fc5 ff5 fc6 ff6 fc7 ff7 fc8 ff8 fc9 ff9; refine hK.out _ _ (EE) (fun hHeld => ?_); clear hK K)
            try simp only [pt]
            refine tk (i := 10) (v := ?v52) rfl ?c52 ?d52
            case c52 => (refine .inl ⟨by rfl, ?_⟩; intro w h; (try dsimp only at h); go_simp <;> with_reducible rfl)
            try simp only [pt]
            refine wpAnyH_done (by kernel_rfl) ?_ _; clear HMK46; go_wp2_with fail
            go_meet
            exact ⟨g8, ⟨a1_w, c1_w, a2_w, c2_w, a3_w, c3_w, a4_w, c4_w⟩, rfl, rfl, F8.out, O_w, hHeld.2, L8⟩
       case hka49_q1 =>
        (rw [if_pos (by rfl)]; go_simp; have F8 : Hid (Blk (v14_.alloc (.cells #[.slice none 0 0, .slice none 0 0, .slice none 0 0, .int .i64 0, .int .i64 0, .slice none 0 0, .int .i64 0, .int .i64 0, .int .i64 0, .int .i64 0] 45)).drew v14_.heap.size 45 #[.slice none 0 0, .slice none 0 0, .slice none 0 0, .int .i64 0, .int .i64 0, .slice none 0 0, .int .i64 0, .int .i64 0, .int .i64 0, .int .i64 0]) := Blk.new v14_ 45 #[.slice none 0 0, .slice none 0 0, .slice none 0 0, .int .i64 0, .int .i64 0, .slice none 0 0, .int .i64 0, .int .i64 0, .int .i64 0, .int .i64 0]; have EE := HMK46.out (v14_.alloc (.cells #[.slice none 0 0, .slice none 0 0, .slice none 0 0, .int .i64 0, .int .i64 0, .slice none 0 0, .int .i64 0, .int .i64 0, .int .i64 0, .int .i64 0] 45)).drew ((Below.refl _ v14_).alloc (Nat.le_refl _) (.cells #[.slice none 0 0, .slice none 0 0, .slice none 0 0, .int .i64 0, .int .i64 0, .slice none 0 0, .int .i64 0, .int .i64 0, .int .i64 0, .int .i64 0] 45)).drew; have L8 : v14_.heap.size ≤ v14_.heap.size := Nat.le_refl _; generalize (v14_.alloc (.cells #[.slice none 0 0, .slice none 0 0, .slice none 0 0, .int .i64 0, .int .i64 0, .slice none 0 0, .int .i64 0, .int .i64 0, .int .i64 0, .int .i64 0] 45)).drew = W8a at F8 EE ⊢; obtain ⟨g8, hgf⟩ : ∃ gf, gf = v14_.heap.size := ⟨_, rfl⟩; rw [← hgf] at F8 ⊢; replace L8 : v14_.heap.size ≤ g8 := (by omega); clear hgf; refine hK.out _ _ (EE) (fun hHeld => ?_); clear hK K)
        try simp only [pt]
        refine wpAnyH_ready (rs := [1]) (by kernel_rfl) (by simp) (AllReadyH.cons (o := ?ooa71_q0) ?hia71_q0 (fun K hK => ?hka71_q0) AllReadyH.nil)
        case hia71_q0 => (simp only [gl]; rfl)
        case hka71_q0 =>
         (rw [if_pos (by rfl)]; go_simp; refine (ltoTw ⟨a1_0, c1_0, a2_0, c2_0, a3_0, c3_0, a4_0, c4_0⟩ ⟨hs, ts, ns, r, hd, ac, rt, tm, ls, cm⟩ _ (HI.out _ (bel_tr B hHeld.2))).mono ?_; rintro e p1_ ⟨⟨a1_a, c1_a, a2_a, c2_a, a3_a, c3_a, a4_a, c4_a⟩, rfl, O_a, hb⟩; have Ia := O_a.is; clear O_a; replace F8 := Lib.hid (F8.out.next hb); go_wp2_with fail; refine hK.out _ _ (HMK46.out _ (bel_tr hHeld.2 hb)) (fun hHeld => ?_); clear hK K)
         try simp only [pt]
         refine wpAnyH_ready (rs := [3]) (by kernel_rfl) (by simp) (AllReadyH.cons (o := ?ooa72_q0) ?hia72_q0 (fun K hK => ?hka72_q0) AllReadyH.nil)
         case hia72_q0 => (simp only [gl]; rfl)
         case hka72_q0 =>
          (rw [if_pos (by rfl)]; go_simp; refine (ltoEv ea1 ec1 ⟨k, ⟨dk, o, tt, n, d, zs⟩, at_, nu⟩ _ (HZ.out _ (bel_tr B hHeld.2)) HZN.out).mono ?_; rintro e p3_ ⟨gz, rfl, lgz, Rz, hb⟩; have Iz := row_ints Rz; clear Rz lgz; replace F8 := Lib.hid (F8.out.next hb); replace Ia := tw_below Ia hb; go_wp2_with fail; refine hK.out _ _ (HMK46.out _ (bel_tr hHeld.2 hb)) (fun hHeld => ?_); clear hK K)
          try simp only [pt]
          refine wpAnyH_ready (rs := [4]) (by kernel_rfl) (by simp) (AllReadyH.cons (o := ?ooa73_q0) ?hia73_q0 (fun K hK => ?hka73_q0) AllReadyH.nil)
          case hia73_q0 => (simp only [gl]; rfl)
          case hka73_q0 =>
           (rw [if_pos (by rfl)]; go_simp; refine (CI.out ⟨a1_a, c1_a, a2_a, c2_a, a3_a, c3_a, a4_a, c4_a⟩ _ gz Ia Iz).mono ?_; rintro e p4_ ⟨⟨a1_w, c1_w, a2_w, c2_w, a3_w, c3_w, a4_w, c4_w⟩, he, O_w, hb⟩; change e = .returned (.tuple #[.agg #[.slice a1_w hsR.length c1_w, .slice a2_w tsR.length c2_w, .slice a3_w nsR.length c3_w, .int .i64 rR, .int .i64 hdR, .slice a4_w acR.length c4_w, .int .i64 rtR, .int .i64 tmR, .int .i64 lsR, .int .i64 cmR], .bool bR]) at he; subst he; replace O_w := O_w.base hHeld.2.size; replace F8 := Lib.hid (F8.out.next hb); replace Ia := tw_below Ia hb; replace Iz := ints_below Iz hb; go_wp2_with fail; refine hK.out _ _ (HMK46.out _ (bel_tr hHeld.2 hb)) (fun hHeld => ?_); clear hK K)
           try simp only [pt]
           refine tk (i := 5) (v := ?v53) rfl ?c53 ?d53
           case c53 => (refine .inl ⟨by rfl, ?_⟩; intro w h; (try dsimp only at h); go_simp <;> with_reducible rfl)
           try simp only [pt]
           refine tk (i := 6) (v := ?v54) rfl ?c54 ?d54
           case c54 => (refine .inl ⟨by rfl, ?_⟩; intro w h; (try dsimp only at h); go_simp <;> with_reducible rfl)
           try simp only [pt]
           refine tk (i := 7) (v := ?v55) rfl ?c55 ?d55
           case c55 => (refine .inl ⟨by rfl, ?_⟩; intro w h; (try dsimp only at h); go_simp <;> with_reducible rfl)
           try simp only [pt]
           refine wpAnyH_ready (rs := [9]) (by kernel_rfl) (by simp) (AllReadyH.cons (o := ?ooa77_q0) ?hia77_q0 (fun K hK => ?hka77_q0) AllReadyH.nil)
           case hia77_q0 => (simp only [gl]; rfl)
           case hka77_q0 =>
            (rw [if_pos (by rfl)]; obtain ⟨fc0, fc1, fc2, fc3, fc4, fc5, fc6, fc7, fc8, fc9⟩ := tcl F8.out; have ff0 := F8.out.frozen 0; have ff1 := F8.out.frozen 1; have ff2 := F8.out.frozen 2; have ff3 := F8.out.frozen 3; have ff4 := F8.out.frozen 4; have ff5 := F8.out.frozen 5; have ff6 := F8.out.frozen 6; have ff7 := F8.out.frozen 7; have ff8 := F8.out.frozen 8; have ff9 := F8.out.frozen 9; go_simp; obtain ⟨W8_77s, hy⟩ : ∃ y, y = sets10 p4_ g8 (.slice a1_w hsR.length c1_w) (.slice a2_w tsR.length c2_w) (.slice a3_w nsR.length c3_w) (.int .i64 rR) (.int .i64 hdR) (.slice a4_w acR.length c4_w) (.int .i64 rtR) (.int .i64 tmR) (.int .i64 lsR) (.int .i64 cmR) := ⟨_, rfl⟩; change K _ (sets10 _ _ _ _ _ _ _ _ _ _ _ _); rw [← hy]; have EE := HMK46.out _ (X10B hHeld.2 hy L8); replace O_w := X10o O_w F8.out hy; replace F8 := Lib.hid (X10b F8.out hy); clear hy fc0 ff0 fc1 ff1 fc2 ff2 fc3 ff3 fc4 ff4 fc5 ff5 fc6 ff6 fc7 ff7 fc8 ff8 fc9 ff9; refine hK.out _ _ (EE) (fun hHeld => ?_); clear hK K)
            try simp only [pt]
            refine tk (i := 10) (v := ?v56) rfl ?c56 ?d56
            case c56 => (refine .inl ⟨by rfl, ?_⟩; intro w h; (try dsimp only at h); go_simp <;> with_reducible rfl)
            try simp only [pt]
            refine wpAnyH_done (by kernel_rfl) ?_ _; clear HMK46; go_wp2_with fail
            go_meet
            exact ⟨g8, ⟨a1_w, c1_w, a2_w, c2_w, a3_w, c3_w, a4_w, c4_w⟩, rfl, rfl, F8.out, O_w, hHeld.2, L8⟩
      case rest =>
       obtain ⟨g_h, ⟨a1_h, c1_h, a2_h, c2_h, a3_h, c3_h, a4_h, c4_h⟩, rfl, rfl, K_h, O_h, C, L_h⟩ := hcut; dsimp only at K_h
       obtain ⟨wc_h, hwc⟩ : ∃ W, W = wc := ⟨_, rfl⟩
       subst hwc; clear q00 q01 q02 q03 q04 q05 q06 q07 q08 q09 qE0 qE1 qE2 qE3 qE4 qE5 qE6 qE7 qE8; replace K0 := K0.next C; replace KE := KE.next C; replace K_W := K_W.next C; replace K_g := K_g.next C; replace I_W := tw_below I_W C; replace M := M.next C; replace B := bel_tr B C; replace D := bel_tr D C; clear C; obtain ⟨qh0, qh1, qh2, qh3, qh4, qh5, qh6, qh7, qh8, qh9⟩ := tcl K_h; obtain ⟨qW0, qW1, qW2, qW3, qW4, qW5, qW6, qW7, qW8, qW9⟩ := tcl K_W; go_wp2_with fail; refine (leqTw ⟨a1_h, c1_h, a2_h, c2_h, a3_h, c3_h, a4_h, c4_h⟩ ⟨a1_W, c1_W, a2_W, c2_W, a3_W, c3_W, a4_W, c4_W⟩ ⟨hsR, tsR, nsR, rR, hdR, acR, rtR, tmR, lsR, cmR⟩ _ O_h.is I_W).mono ?_; rintro e v15_ ⟨rfl, C⟩; clear qh0 qh1 qh2 qh3 qh4 qh5 qh6 qh7 qh8 qh9 qW0 qW1 qW2 qW3 qW4 qW5 qW6 qW7 qW8 qW9; replace K0 := K0.next C; replace KE := KE.next C; replace K_W := K_W.next C; replace K_g := K_g.next C; replace K_h := K_h.next C; replace I_W := tw_below I_W C; replace M := M.next C; replace O_h := O_h.next C; replace B := bel_tr B C; replace D := bel_tr D C; clear C; obtain ⟨qg0, qg1, qg2, qg3, qg4, qg5, qg6, qg7, qg8, qg9⟩ := tcl K_g; go_wp2_with fail; refine (hkTw ⟨a1_g, c1_g, a2_g, c2_g, a3_g, c3_g, a4_g, c4_g⟩ ⟨hsR, tsR, nsR, rR, hdR, acR, rtR, tmR, lsR, cmR⟩ _ 1 _ M (by omega) (by omega)).mono ?_; rintro e v16_ ⟨rfl, C⟩; rw [HM.out]; clear qg0 qg1 qg2 qg3 qg4 qg5 qg6 qg7 qg8 qg9; replace K0 := K0.next C; replace KE := KE.next C; replace K_W := K_W.next C; replace K_g := K_g.next C; replace K_h := K_h.next C
       replace I_W := tw_below I_W C; replace M := M.next C; replace O_h := O_h.next C; replace B := bel_tr B C; replace D := bel_tr D C; clear C; go_wp2_with fail; go_ret; exact ⟨rfl, B⟩

theorem lifted (os : Os) (started : os.Started) (H : Type) (enc : TypeId × Value → H) :
  ReturnsInHanded {} Tryz.checked os 3 .any (Rows.fnExactApplyEventSpec.pre6 enc Tryz.prog Tryz.f3 Rows.fnExactApplyEventRow.domain false) (Rows.fnExactApplyEventSpec.post enc Tryz.prog Tryz.f3 false true false false) := by
 refine returnsInHanded_of_change (C := Tryz.checked) own started (by kernel_rfl) Tryz.func3
  (ChangeSpec.witness6 (enc := enc) (C := Tryz.checked) false ⟨#[], #[.agg #[.slice none 0 0, .slice none 0 0, .slice none 0 0, .int .i64 0, .int .i64 0, .slice none 0 0, .int .i64 0, .int .i64 0, .int .i64 0, .int .i64 0], .agg #[.int .i64 0, .int .i64 0, .int .i64 0, .int .i64 0, .int .i64 0, .int .i64 0, .slice none 0 0, .int .i64 0, .int .i64 0]], []⟩ 8 (by kernel_rfl) (by kernel_rfl) (by kernel_rfl) (by kernel_rfl)) ?_
 intro W base args ds gs before hval0 hW hcnd _; have hval : ∀ (j : Nat) t v, Tryz.f3.params[j]? = some t → args[j]? = some v → Value.okWide Tryz.prog W .any base t v := hval0; have hW' := hW; obtain ⟨p, q, hA0, hV, rfl, hfz, hnd⟩ := hW; have hA : DataW.TrodAll enc Tryz.prog W 0 (fun _ => true) true Tryz.f3.params.toList args.toList ds p := hA0; rw [Tryz.params3] at hA hval; obtain ⟨v0, vs0, e0, es0, p0, q0, hargs, rfl, rfl, h0, r0⟩ := trodAll_cons hA; obtain ⟨v1, vs1, e1, es1, p1, q1, rfl, rfl, rfl, h1, r1⟩ := trodAll_cons r0; obtain ⟨rfl, rfl, rfl⟩ := trodAll_nil r1
 obtain rfl : args = #[v0, v1] := by cases args; simp_all
 obtain ⟨rfl, rfl⟩ := trodVars_none hV; have k0 := h0
 have lt0 : ∀ x ∈ p0, x.block < W.heap.size := by obtain ⟨m, hm⟩ := k0; exact DataW.trod_lt m _ _ _ hm
 obtain ⟨pa0, tw0, rfl, w0⟩ := open_town (hval 0 29 v0 rfl rfl) h0; have k1 := h1
 have lt1 : ∀ x ∈ p1, x.block < W.heap.size := by obtain ⟨m, hm⟩ := k1; exact DataW.trod_lt m _ _ _ hm
 obtain ⟨ea1, ec1, ev1, rfl, w1⟩ := open_event (hval 1 36 v1 rfl rfl) h1; clear hA0 hval0
 refine (walk pa0 tw0 ea1 ec1 ev1 W w0 w1).mono fun e W' ⟨he, bel⟩ => ?_
 subst he; exact ⟨_, rfl, _, _, _, [], _, [], hW', trodAll_mk1 (shut_bool Tryz.underlying4 _), (trodAll_cons_mk (Below.trod laidOut (by kernel_rfl) (of_decide_eq_true (by kernel_rfl)) k0 bel lt0) (trodAll_cons_mk (Below.trod laidOut (by kernel_rfl) (of_decide_eq_true (by kernel_rfl)) k1 bel lt1) trodAll_mk0)), rfl, bel.frame _, fun h => by cases h⟩

theorem over : Rows.fnExactApplyEventRow.holds Tryz.pinned (OpenSpec.ofChange Rows.fnExactApplyEventSpec) :=
 OpenClaim.holds_of_wide 3 Tryz.f3 rfl rfl rfl rfl rfl rfl rfl ⟨rfl, rfl, rfl, rfl, rfl⟩ rfl rfl rfl rfl rfl (by kernel_rfl) Tryz.func3 (by kernel_rfl)
  (of_decide_eq_true (by kernel_rfl)) (by unfold Func.isWrapper; first | (rw [if_pos (by decide +kernel)]; kernel_rfl) | (rw [if_neg (by decide +kernel)]; exact ⟨rfl, rfl⟩))
  (fun os started H enc _ => lifted os started H enc)

end Go.Proofs.YthagafkjlecagabGreat.fnExactApplyEvent
namespace Go.Proofs.YthagafkjlecagabGreat
theorem fnExactApplyEvent_holds : Rows.FnExactApplyEventSaid := fnExactApplyEvent.over
end Go.Proofs.YthagafkjlecagabGreat
