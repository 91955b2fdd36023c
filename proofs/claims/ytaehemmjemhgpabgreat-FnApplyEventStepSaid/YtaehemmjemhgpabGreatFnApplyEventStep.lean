/- For every input the law answers true, and its argument reads afterwards as before: an hour is a step of the basin. No condition. -/
import Derived.Test.YtaehemmjemhgpabGreatZAG0
import Derived.Test.YtaehemmjemhgpabGreatRows
import Derived.Test.YtaehemmjemhgpabGreatZADrawTe
import Derived.Test.YtaehemmjemhgpabGreatZAApI
import Derived.Test.YtaehemmjemhgpabGreatZAG9
import Derived.Test.YtaehemmjemhgpabGreatZAG3
import Derived.Test.YtaehemmjemhgpabGreatZAG7
import Derived.Test.YtaehemmjemhgpabGreatZAG2
import Derived.Test.YtaehemmjemhgpabGreatZAG4
import Derived.WalkKit
import Derived.ProofKit
import Derived.OpenShut
import Derived.ShutString
import Derived.ChangeOld
import Derived.Below
import Derived.Lib.SmallJoins
set_option maxRecDepth 100000
set_option maxHeartbeats 16000000
namespace Go.Proofs.YtaehemmjemhgpabGreat.fnApplyEventStep
open Go.ChangeShapes Go.WideShapes Go.ChangeAt Go.RowKit Go.Joins
open Go.ChangeMaps (open_string shut_string)
set_option linter.unusedVariables false
set_option linter.unusedSimpArgs false

theorem own : ownKnob Tryz.prog.godebug = none := by kernel_rfl
theorem laidOut : laidOutB Tryz.prog = true := by kernel_rfl
theorem aev_is {t : Tw} {x : Ev} (h : aevB t x = true) : twB t = true ∧ apT t x = some (aevU t x) := by
 unfold aevB at h; rw [Bool.and_eq_true] at h; obtain ⟨h1, h2⟩ := h; refine ⟨h1, ?_⟩; rw [(aev_yes h1).2]; unfold apB at h2; unfold apU; obtain ⟨u, hu⟩ := Option.isSome_iff_exists.1 h2; rw [hu]; rfl
theorem wf_smallE {n : Int} (h : -1000000 ≤ n ∧ n ≤ 1000000) : (Lit.int .i64 n).wf = true := by
 have e1 : IntKind.i64.min = -9223372036854775808 := by decide +kernel
 have e2 : IntKind.i64.max = 9223372036854775807 := by decide +kernel
 show (decide (IntKind.i64.min ≤ n) && decide (n ≤ IntKind.i64.max)) = true
 rw [e1, e2, decide_eq_true (by omega : (-9223372036854775808 : Int) ≤ n), decide_eq_true (by omega : n ≤ 9223372036854775807)]; rfl

theorem walk (a0 : Option Addr) (len0 cap0 : Nat) (z0 : List Int) (w : World) (w0 : IsRow .u8 w a0 len0 cap0 z0) :
    Calls Tryz.prog 5 #[.slice a0 len0 cap0] w fun e w' => e = .returned (.bool true) ∧ Below w.heap.size w w' := by
  by_cases big : (1048576 : Int) < (len0 : Int)
  · go_enter Tryz.func5, Tryz.ntmps5
    go_wp2
    go_ret; exact ⟨rfl, Below.refl _ _⟩
  go_enter Tryz.func5, Tryz.ntmps5; go_wp2_with fail; refine (drawAE a0 len0 cap0 z0 _ w0).mono ?_; rintro e u1 ⟨q, u, A, cz, x, rfl, hI, z4, zc, hZ, zab, B⟩; clear w0 big zab; have HI := Lib.hid (fun W (hW : Below u1.heap.size u1 W) => jq7 hI hW); have CI := Lib.hid (fun W (hW : Below u1.heap.size u1 W) => (iApply q.a1 q.a2 q.a3 q.a4 q.c1 q.c2 q.c3 q.c4 u.hs u.ts u.ns u.r u.hd u.ac u.rt u.tm u.ls u.cm x.k x.dd.k x.dd.o x.dd.t x.dd.n x.dd.d A x.dd.zs cz x.at_ x.nu W (jq7 hI hW) (jqf hZ hW) (by omega) zc : Calls Tryz.prog 11 #[.agg #[.slice q.a1 u.hs.length q.c1, .slice q.a2 u.ts.length q.c2, .slice q.a3 u.ns.length q.c3, .int .i64 u.r, .int .i64 u.hd, .slice q.a4 u.ac.length q.c4, .int .i64 u.rt, .int .i64 u.tm, .int .i64 u.ls, .int .i64 u.cm], .agg #[.int .i64 x.k, .int .i64 x.dd.k, .int .i64 x.dd.o, .int .i64 x.dd.t, .int .i64 x.dd.n, .int .i64 x.dd.d, .slice A x.dd.zs.length cz, .int .i64 x.at_, .int .i64 x.nu]] W (OutTB W (aevB u x) (aevU u x)))); have CS := Lib.hid (fun W (hW : Below u1.heap.size u1 W) => (sApply q.a1 q.a2 q.a3 q.a4 q.c1 q.c2 q.c3 q.c4 u.hs u.ts u.ns u.r u.hd u.ac u.rt u.tm u.ls u.cm x.k x.dd.k x.dd.o x.dd.t x.dd.n x.dd.d A x.dd.zs cz x.at_ x.nu W (jq7 hI hW) (jqf hZ hW) (by omega) zc : Calls Tryz.prog 12 #[.agg #[.slice q.a1 u.hs.length q.c1, .slice q.a2 u.ts.length q.c2, .slice q.a3 u.ns.length q.c3, .int .i64 u.r, .int .i64 u.hd, .slice q.a4 u.ac.length q.c4, .int .i64 u.rt, .int .i64 u.tm, .int .i64 u.ls, .int .i64 u.cm], .agg #[.int .i64 x.k, .int .i64 x.dd.k, .int .i64 x.dd.o, .int .i64 x.dd.t, .int .i64 x.dd.n, .int .i64 x.dd.d, .slice A x.dd.zs.length cz, .int .i64 x.at_, .int .i64 x.nu]] W (OutTB W (aevB u x) (aevU u x))))
  have HIS := Lib.hid (@aev_is u x)
  have HNO : Hid (aevB u x = false → aevU u x = Tw.zero) := fun h => by
    cases hv : twB u with
    | false => exact (aev_no hv).2
    | true =>
      rw [(aev_yes hv).1] at h; rw [(aev_yes hv).2]; unfold apB at h; unfold apU
      cases ha : apT u x with
      | none => rfl
      | some v => rw [ha] at h; cases h
  have HZ0 := Lib.hid hZ
  have HZ4 : Hid (x.dd.zs.length ≤ 4 ∧ x.dd.zs.length ≤ cz) := ⟨z4, zc⟩
  clear hI hZ z4 zc
  obtain ⟨b, hb⟩ : ∃ b, aevB u x = b := ⟨_, rfl⟩
  obtain ⟨u2, hu2⟩ : ∃ v, aevU u x = v := ⟨_, rfl⟩
  rw [hb, hu2] at CI CS HNO HIS; clear hb hu2
  have DA : Below u1.heap.size u1 ((u1.alloc (.cells #[.slice none 0 0, .slice none 0 0, .slice none 0 0, .int .i64 0, .int .i64 0, .slice none 0 0, .int .i64 0, .int .i64 0, .int .i64 0, .int .i64 0] 30)).alloc (.cells #[.int .i64 0, .int .i64 0, .int .i64 0, .int .i64 0, .int .i64 0, .int .i64 0, .slice none 0 0, .int .i64 0, .int .i64 0] 37)) := by go_grown
  have HKA : Hid (Blk ((u1.alloc (.cells #[.slice none 0 0, .slice none 0 0, .slice none 0 0, .int .i64 0, .int .i64 0, .slice none 0 0, .int .i64 0, .int .i64 0, .int .i64 0, .int .i64 0] 30)).alloc (.cells #[.int .i64 0, .int .i64 0, .int .i64 0, .int .i64 0, .int .i64 0, .int .i64 0, .slice none 0 0, .int .i64 0, .int .i64 0] 37)) u1.heap.size 30 #[.slice none 0 0, .slice none 0 0, .slice none 0 0, .int .i64 0, .int .i64 0, .slice none 0 0, .int .i64 0, .int .i64 0, .int .i64 0, .int .i64 0]) := (Blk.new _ _ _).alloc _
  have HKB : Hid (Blk ((u1.alloc (.cells #[.slice none 0 0, .slice none 0 0, .slice none 0 0, .int .i64 0, .int .i64 0, .slice none 0 0, .int .i64 0, .int .i64 0, .int .i64 0, .int .i64 0] 30)).alloc (.cells #[.int .i64 0, .int .i64 0, .int .i64 0, .int .i64 0, .int .i64 0, .int .i64 0, .slice none 0 0, .int .i64 0, .int .i64 0] 37)) (u1.heap.size + 1) 37 #[.int .i64 0, .int .i64 0, .int .i64 0, .int .i64 0, .int .i64 0, .int .i64 0, .slice none 0 0, .int .i64 0, .int .i64 0]) := by
    have := Blk.new (u1.alloc (.cells #[.slice none 0 0, .slice none 0 0, .slice none 0 0, .int .i64 0, .int .i64 0, .slice none 0 0, .int .i64 0, .int .i64 0, .int .i64 0, .int .i64 0] 30)) 37 #[.int .i64 0, .int .i64 0, .int .i64 0, .int .i64 0, .int .i64 0, .int .i64 0, .slice none 0 0, .int .i64 0, .int .i64 0]; rw [World.size_alloc] at this; exact this
  obtain ⟨y1, hy1⟩ : ∃ Y_, Y_ = jq9 ((u1.alloc (.cells #[.slice none 0 0, .slice none 0 0, .slice none 0 0, .int .i64 0, .int .i64 0, .slice none 0 0, .int .i64 0, .int .i64 0, .int .i64 0, .int .i64 0] 30)).alloc (.cells #[.int .i64 0, .int .i64 0, .int .i64 0, .int .i64 0, .int .i64 0, .int .i64 0, .slice none 0 0, .int .i64 0, .int .i64 0] 37)) u1.heap.size (.slice q.a1 u.hs.length q.c1) (.slice q.a2 u.ts.length q.c2) (.slice q.a3 u.ns.length q.c3) (.int .i64 u.r) (.int .i64 u.hd) (.slice q.a4 u.ac.length q.c4) (.int .i64 u.rt) (.int .i64 u.tm) (.int .i64 u.ls) (.int .i64 u.cm) := ⟨_, rfl⟩
  have D1 : Below u1.heap.size u1 y1 := by rw [hy1]; exact DA.trans (jxh (Nat.le_refl _) _ _ _ _ _ _ _ _ _ _)
  have KS1 : Blk y1 u1.heap.size 30 #[.slice q.a1 u.hs.length q.c1, .slice q.a2 u.ts.length q.c2, .slice q.a3 u.ns.length q.c3, .int .i64 u.r, .int .i64 u.hd, .slice q.a4 u.ac.length q.c4, .int .i64 u.rt, .int .i64 u.tm, .int .i64 u.ls, .int .i64 u.cm] := by
    have := jze (v0 := .slice q.a1 u.hs.length q.c1) (v1 := .slice q.a2 u.ts.length q.c2) (v2 := .slice q.a3 u.ns.length q.c3) (v3 := .int .i64 u.r) (v4 := .int .i64 u.hd) (v5 := .slice q.a4 u.ac.length q.c4) (v6 := .int .i64 u.rt) (v7 := .int .i64 u.tm) (v8 := .int .i64 u.ls) (v9 := .int .i64 u.cm) HKA.out; rw [← hy1] at this; exact this
  have HKB1 : Hid (Blk y1 (u1.heap.size + 1) 37 #[.int .i64 0, .int .i64 0, .int .i64 0, .int .i64 0, .int .i64 0, .int .i64 0, .slice none 0 0, .int .i64 0, .int .i64 0]) := X10f HKB.out hy1 (by omega)
  obtain ⟨y2, hy2⟩ : ∃ Y_, Y_ = sets9 y1 (u1.heap.size + 1) (.int .i64 x.k) (.int .i64 x.dd.k) (.int .i64 x.dd.o) (.int .i64 x.dd.t) (.int .i64 x.dd.n) (.int .i64 x.dd.d) (.slice A x.dd.zs.length cz) (.int .i64 x.at_) (.int .i64 x.nu) := ⟨_, rfl⟩
  have D : Below u1.heap.size u1 y2 := by rw [hy2]; exact D1.trans (jj0 (Nat.le_succ _) _ _ _ _ _ _ _ _ _)
  have KS : Blk y2 u1.heap.size 30 #[.slice q.a1 u.hs.length q.c1, .slice q.a2 u.ts.length q.c2, .slice q.a3 u.ns.length q.c3, .int .i64 u.r, .int .i64 u.hd, .slice q.a4 u.ac.length q.c4, .int .i64 u.rt, .int .i64 u.tm, .int .i64 u.ls, .int .i64 u.cm] := KS1.sets9f hy2 (by omega)
  have KE : Blk y2 (u1.heap.size + 1) 37 #[.int .i64 x.k, .int .i64 x.dd.k, .int .i64 x.dd.o, .int .i64 x.dd.t, .int .i64 x.dd.n, .int .i64 x.dd.d, .slice A x.dd.zs.length cz, .int .i64 x.at_, .int .i64 x.nu] := by
    have := jxg (v0 := .int .i64 x.k) (v1 := .int .i64 x.dd.k) (v2 := .int .i64 x.dd.o) (v3 := .int .i64 x.dd.t) (v4 := .int .i64 x.dd.n) (v5 := .int .i64 x.dd.d) (v6 := .slice A x.dd.zs.length cz) (v7 := .int .i64 x.at_) (v8 := .int .i64 x.nu) HKB1.out; rw [← hy2] at this; exact this
  replace B := B.trans (D.mono B.size); have HY1 := Lib.hid hy1; have HY2 := Lib.hid hy2; clear hy1 hy2 KS1 D1 DA; obtain ⟨S0_, S1_, S2_, S3_, S4_, S5_, S6_, S7_, S8_, S9_⟩ := jq0 KS; obtain ⟨E0_, E1_, E2_, E3_, E4_, E5_, E6_, E7_, E8_⟩ := jqa KE
  go_wp2_with (first | (show wpList _ _ _ ({ dst := _, op := Op.store _ _ _, type := _, pos := _, after := _, guard := _ } :: _) _ _; refine jzc rfl _ _ _ rfl u1.heap.size (.slice q.a1 u.hs.length q.c1) (.slice q.a2 u.ts.length q.c2) (.slice q.a3 u.ns.length q.c3) (.int .i64 u.r) (.int .i64 u.hd) (.slice q.a4 u.ac.length q.c4) (.int .i64 u.rt) (.int .i64 u.tm) (.int .i64 u.ls) (.int .i64 u.cm) rfl rfl HKA.out (by kernel_rfl) rfl ?_; rw [← HY1.out]) | (show wpList _ _ _ ({ dst := _, op := Op.store _ _ _, type := _, pos := _, after := _, guard := _ } :: _) _ _; refine jxj rfl _ _ _ rfl (u1.heap.size + 1) (.int .i64 x.k) (.int .i64 x.dd.k) (.int .i64 x.dd.o) (.int .i64 x.dd.t) (.int .i64 x.dd.n) (.int .i64 x.dd.d) (.slice A x.dd.zs.length cz) (.int .i64 x.at_) (.int .i64 x.nu) rfl rfl HKB1.out (by kernel_rfl) rfl ?_; rw [← HY2.out]))
  clear HKA HKB HKB1 HY1 HY2; refine (CI.out _ D).mono ?_; rintro e u3 ⟨p1, he, OR, C⟩; change e = .returned (.tuple #[.agg #[.slice p1.a1 u2.hs.length p1.c1, .slice p1.a2 u2.ts.length p1.c2, .slice p1.a3 u2.ns.length p1.c3, .int .i64 u2.r, .int .i64 u2.hd, .slice p1.a4 u2.ac.length p1.c4, .int .i64 u2.rt, .int .i64 u2.tm, .int .i64 u2.ls, .int .i64 u2.cm], .bool b]) at he; subst he; clear E0_ E1_ E2_ E3_ E4_ E5_ E6_ E7_ E8_ S0_ S1_ S2_ S3_ S4_ S5_ S6_ S7_ S8_ S9_; replace KS := KS.next C; replace KE := KE.next C; replace B := jq1 B C; replace D := jq1 D C; have IR := OR.is; clear C OR CI
  obtain ⟨U4, hU4⟩ : ∃ y, y = u3.alloc (.cells #[.slice p1.a1 u2.hs.length p1.c1, .slice p1.a2 u2.ts.length p1.c2, .slice p1.a3 u2.ns.length p1.c3, .int .i64 u2.r, .int .i64 u2.hd, .slice p1.a4 u2.ac.length p1.c4, .int .i64 u2.rt, .int .i64 u2.tm, .int .i64 u2.ls, .int .i64 u2.cm] 30) := ⟨_, rfl⟩
  have D4 : Below u3.heap.size u3 U4 := by subst hU4; exact (Below.refl _ _).alloc (Nat.le_refl _) _
  have KR : Blk U4 u3.heap.size 30 #[.slice p1.a1 u2.hs.length p1.c1, .slice p1.a2 u2.ts.length p1.c2, .slice p1.a3 u2.ns.length p1.c3, .int .i64 u2.r, .int .i64 u2.hd, .slice p1.a4 u2.ac.length p1.c4, .int .i64 u2.rt, .int .i64 u2.tm, .int .i64 u2.ls, .int .i64 u2.cm] := by subst hU4; exact Blk.new _ _ _
  replace KS := KS.next D4; replace KE := KE.next D4; replace B := jq1 B D4; replace D := jq1 D D4; replace IR := jq7 IR D4; have HU4 := Lib.hid hU4; clear hU4 D4; obtain ⟨S0_, S1_, S2_, S3_, S4_, S5_, S6_, S7_, S8_, S9_⟩ := jq0 KS; obtain ⟨E0_, E1_, E2_, E3_, E4_, E5_, E6_, E7_, E8_⟩ := jqa KE
  go_wp2_with (first | (show wpList _ _ _ ({ dst := some _, op := _, type := _, pos := _, after := _, guard := _ } :: _) _ (World.alloc _ _); rw [← HU4.out]))
  refine (CS.out _ D).mono ?_; rintro e u5 ⟨p2, he, OM, C⟩; change e = .returned (.tuple #[.agg #[.slice p2.a1 u2.hs.length p2.c1, .slice p2.a2 u2.ts.length p2.c2, .slice p2.a3 u2.ns.length p2.c3, .int .i64 u2.r, .int .i64 u2.hd, .slice p2.a4 u2.ac.length p2.c4, .int .i64 u2.rt, .int .i64 u2.tm, .int .i64 u2.ls, .int .i64 u2.cm], .bool b]) at he; subst he; clear E0_ E1_ E2_ E3_ E4_ E5_ E6_ E7_ E8_ S0_ S1_ S2_ S3_ S4_ S5_ S6_ S7_ S8_ S9_; replace KS := KS.next C; replace KE := KE.next C; replace KR := KR.next C; replace B := jq1 B C; replace D := jq1 D C; replace IR := jq7 IR C; have IM := OM.is; clear C OM CS HU4
  obtain ⟨U6, hU6⟩ : ∃ y, y = u5.alloc (.cells #[.slice p2.a1 u2.hs.length p2.c1, .slice p2.a2 u2.ts.length p2.c2, .slice p2.a3 u2.ns.length p2.c3, .int .i64 u2.r, .int .i64 u2.hd, .slice p2.a4 u2.ac.length p2.c4, .int .i64 u2.rt, .int .i64 u2.tm, .int .i64 u2.ls, .int .i64 u2.cm] 30) := ⟨_, rfl⟩
  have D4 : Below u5.heap.size u5 U6 := by subst hU6; exact (Below.refl _ _).alloc (Nat.le_refl _) _
  have KM : Blk U6 u5.heap.size 30 #[.slice p2.a1 u2.hs.length p2.c1, .slice p2.a2 u2.ts.length p2.c2, .slice p2.a3 u2.ns.length p2.c3, .int .i64 u2.r, .int .i64 u2.hd, .slice p2.a4 u2.ac.length p2.c4, .int .i64 u2.rt, .int .i64 u2.tm, .int .i64 u2.ls, .int .i64 u2.cm] := by subst hU6; exact Blk.new _ _ _
  replace KS := KS.next D4; replace KE := KE.next D4; replace KR := KR.next D4; replace B := jq1 B D4; replace D := jq1 D D4; replace IR := jq7 IR D4; replace IM := jq7 IM D4; have HU6 := Lib.hid hU6; clear hU6 D4; obtain ⟨R0_, R1_, R2_, R3_, R4_, R5_, R6_, R7_, R8_, R9_⟩ := jq0 KR; obtain ⟨M0_, M1_, M2_, M3_, M4_, M5_, M6_, M7_, M8_, M9_⟩ := jq0 KM
  cases b with
  | false =>
    go_wp2_with (first | (show wpList _ _ _ ({ dst := some _, op := _, type := _, pos := _, after := _, guard := _ } :: _) _ (World.alloc _ _); rw [← HU6.out]))
    refine (eqTw p1 p2 u2 _ IR IM).mono ?_; rintro e u7 ⟨rfl, C⟩; clear M0_ M1_ M2_ M3_ M4_ M5_ M6_ M7_ M8_ M9_ R0_ R1_ R2_ R3_ R4_ R5_ R6_ R7_ R8_ R9_; replace KS := KS.next C; replace KE := KE.next C; replace KR := KR.next C; replace KM := KM.next C; replace B := jq1 B C; replace D := jq1 D C; replace IR := jq7 IR C; replace IM := jq7 IM C; clear C; obtain ⟨R0_, R1_, R2_, R3_, R4_, R5_, R6_, R7_, R8_, R9_⟩ := jq0 KR; obtain ⟨M0_, M1_, M2_, M3_, M4_, M5_, M6_, M7_, M8_, M9_⟩ := jq0 KM; go_wp2_with fail; refine (eqTw p1 p2 u2 _ IR IM).mono ?_; rintro e u8 ⟨rfl, C⟩; clear M0_ M1_ M2_ M3_ M4_ M5_ M6_ M7_ M8_ M9_ R0_ R1_ R2_ R3_ R4_ R5_ R6_ R7_ R8_ R9_; replace KS := KS.next C; replace KE := KE.next C; replace KR := KR.next C; replace KM := KM.next C; replace B := jq1 B C; replace D := jq1 D C; replace IR := jq7 IR C; replace IM := jq7 IM C; clear C; go_wp2_with fail; go_ret; exact ⟨rfl, B⟩
  | true =>
    obtain ⟨hv, ha⟩ := HIS.out rfl; have hv2 := (ap_is ha).2; have hsh := ap_shape ha; clear HIS HNO
    by_cases k5 : x.k = 5
    · have e0 : (x.k != 5) = false := by simp [k5]
      obtain ⟨hu, _, _⟩ := ap_units hv ha k5 (whoM u.ts u.tm); rw [if_pos rfl] at hu; have ok := tw_ok hv; have ok2 := tw_ok hv2
      obtain ⟨n0, n1, hsh2⟩ : 0 ≤ x.nu ∧ x.nu ≤ 500 ∧ u2 = hourT u x.nu := by
        rcases hsh with h | h
        · exact absurd k5 h.1
        · exact h.2
      have g1 : u2.r = u.r := by rw [hsh2]; rfl
      have g2 : u2.hd = jxd u.r u.hd (x.nu - jqj u.ns x.nu) u.rt := by rw [hsh2]; rfl
      have g3 : u2.ls = u.ls + jqj u.ns x.nu + jx2 u.r u.hd (x.nu - jqj u.ns x.nu) u.rt := by rw [hsh2]; rfl
      obtain ⟨lo0, lo1⟩ := hour_lost ok.v3 ⟨n0, n1⟩; have hst : stV u.r u.hd (x.nu - jqj u.ns x.nu) u.rt = .tuple #[.agg #[.int .i64 u.r, .int .i64 (jxd u.r u.hd (x.nu - jqj u.ns x.nu) u.rt)], .int .i64 (jzh u.hd (x.nu - jqj u.ns x.nu) u.rt), .int .i64 (jx2 u.r u.hd (x.nu - jqj u.ns x.nu) u.rt)] := stV_yes (stB_yes ok.v4 (by omega) ok.v6)
      have hwho : whoV u.ts u.tm = whoM u.ts u.tm := by
        unfold whoV; rw [ok.v2, decide_eq_true ok.v7.1, decide_eq_true ok.v7.2]; rfl
      have wft : (Lit.int .i64 u.tm).wf = true := wf_smallE (by have := ok.v7; omega); have b1_ := unt_le (tw_ac hv) (whoM u.ts u.tm); have b2_ := unt_le (tw_ac hv2) (whoM u.ts u.tm); have b3_ := tw_sum hv; have b4_ := tw_sum hv2; have b5_ := tw_nums hv; have b6_ := tw_nums hv2; have CR := Lib.hid (fun (o : Int) W (hW : IsTw W p1 u2) => (by have h := iUnitsTo p1 u2 o W hW; rw [unV_yes hv2] at h; exact h : Calls Tryz.prog 17 #[twV p1 u2, .int .i64 o] W fun e w' => e = .returned (.int .i64 (untV u2.ac o)) ∧ Below W.heap.size W w')); have CT := Lib.hid (fun (o : Int) W (hW : IsTw W q u) => (by have h := iUnitsTo q u o W hW; rw [unV_yes hv] at h; exact h : Calls Tryz.prog 17 #[twV q u, .int .i64 o] W fun e w' => e = .returned (.int .i64 (untV u.ac o)) ∧ Below W.heap.size W w')); generalize hl_ : jqj u.ns x.nu = lost at *; have hlost : jqj u.ns x.nu = lost := hl_; generalize whoM u.ts u.tm = who at *; generalize jxd u.r u.hd (x.nu - lost) u.rt = st at *; generalize jzh u.hd (x.nu - lost) u.rt = give at *; generalize jx2 u.r u.hd (x.nu - lost) u.rt = sp at *
      have sp0 : 0 ≤ u.ls + lost ∧ u.ls + lost ≤ 2000000 := by have := ok.v8; omega
      have w1 : IntKind.i64.wrap (x.nu - lost) = x.nu - lost := by rw [IntKind.wrap_i64]; omega
      have w2 : IntKind.i64.wrap (u.ls + lost) = u.ls + lost := by rw [IntKind.wrap_i64]; omega
      have w3 : IntKind.i64.wrap (u.ls + lost + sp) = u.ls + lost + sp := by rw [IntKind.wrap_i64]; have := ok2.v8; omega
      have w4 : IntKind.i64.wrap (untV u.ac who + give) = untV u.ac who + give := by rw [IntKind.wrap_i64]; omega
      have e1 : (u2.r == u.r) = true := by simp [g1]
      have e2 : (u2.hd == st) = true := by simp [g2]
      have e3 : (u2.ls == u.ls + lost + sp) = true := by simp [g3]
      have e4 : (untV u2.ac who == untV u.ac who + give) = true := by simp [hu]
      clear hu g1 g2 g3 hsh hsh2 ok ok2 b1_ b2_ b3_ b4_ b5_ b6_ hv hv2 ha k5 n0 n1 lo0 lo1 sp0 hl_
      go_wp2_with (first | (show wpList _ _ _ ({ dst := some _, op := _, type := _, pos := _, after := _, guard := _ } :: _) _ (World.alloc _ _); rw [← HU6.out]))
      refine (eqTw p1 p2 u2 _ IR IM).mono ?_; rintro e u7 ⟨rfl, C⟩; clear M0_ M1_ M2_ M3_ M4_ M5_ M6_ M7_ M8_ M9_ R0_ R1_ R2_ R3_ R4_ R5_ R6_ R7_ R8_ R9_; replace KS := KS.next C; replace KE := KE.next C; replace KR := KR.next C; replace KM := KM.next C; replace B := jq1 B C; replace D := jq1 D C; replace IR := jq7 IR C; replace IM := jq7 IM C; clear C; obtain ⟨S0_, S1_, S2_, S3_, S4_, S5_, S6_, S7_, S8_, S9_⟩ := jq0 KS; obtain ⟨E0_, E1_, E2_, E3_, E4_, E5_, E6_, E7_, E8_⟩ := jqa KE; have HIS2 := HI.out _ D; go_wp2_with fail; refine (iLost q.a3 q.c3 u.ns x.nu _ HIS2.h3 HIS2.n3 HIS2.k3).mono ?_; rintro e u8 ⟨rfl, C⟩; clear E0_ E1_ E2_ E3_ E4_ E5_ E6_ E7_ E8_ S0_ S1_ S2_ S3_ S4_ S5_ S6_ S7_ S8_ S9_; replace KS := KS.next C; replace KE := KE.next C; replace KR := KR.next C; replace KM := KM.next C; replace B := jq1 B C; replace D := jq1 D C; replace IR := jq7 IR C; replace IM := jq7 IM C; replace HIS2 := jq7 HIS2 C; rw [hlost]; clear C; obtain ⟨S0_, S1_, S2_, S3_, S4_, S5_, S6_, S7_, S8_, S9_⟩ := jq0 KS; obtain ⟨E0_, E1_, E2_, E3_, E4_, E5_, E6_, E7_, E8_⟩ := jqa KE; go_wp2_with fail; refine (iStep u.r u.hd (x.nu - lost) u.rt _).mono ?_; rintro e u9 ⟨rfl, C⟩; clear E0_ E1_ E2_ E3_ E4_ E5_ E6_ E7_ E8_ S0_ S1_ S2_ S3_ S4_ S5_ S6_ S7_ S8_ S9_; replace KS := KS.next C; replace KE := KE.next C; replace KR := KR.next C; replace KM := KM.next C; replace B := jq1 B C; replace D := jq1 D C; replace IR := jq7 IR C; replace IM := jq7 IM C
      replace HIS2 := jq7 HIS2 C; rw [hst]; clear C
      obtain ⟨U10, hU10⟩ : ∃ y, y = u9.alloc (.cells #[.int .i64 u.r, .int .i64 st] 27) := ⟨_, rfl⟩
      have D4 : Below u9.heap.size u9 U10 := by subst hU10; exact (Below.refl _ _).alloc (Nat.le_refl _) _
      have KB : Blk U10 u9.heap.size 27 #[.int .i64 u.r, .int .i64 st] := by subst hU10; exact Blk.new _ _ _
      replace KS := KS.next D4; replace KE := KE.next D4; replace KR := KR.next D4; replace KM := KM.next D4; replace B := jq1 B D4; replace D := jq1 D D4; replace IR := jq7 IR D4; replace IM := jq7 IM D4; replace HIS2 := jq7 HIS2 D4; have HU10 := Lib.hid hU10; clear hU10 D4; obtain ⟨R0_, R1_, R2_, R3_, R4_, R5_, R6_, R7_, R8_, R9_⟩ := jq0 KR; obtain ⟨S0_, S1_, S2_, S3_, S4_, S5_, S6_, S7_, S8_, S9_⟩ := jq0 KS; obtain ⟨b0, b1, _, _, lB⟩ := jqh KB; have lR := KR.lt; have lS := KS.lt
      go_upto_region 12 with fail
      rw [← HU10.out]; have IR2 := Lib.hid IR; have IS2 := Lib.hid HIS2; have HB := Lib.hid B; clear KR KS KE KM KB IR IM HIS2 B D HU10; go_wp2_with fail; have HMK1 := Lib.hid (fun (W : World) (hW : Below U10.heap.size U10 W) => (⟨⟨(hW.cell (p := ⟨u3.heap.size, 0, none⟩) (lR)).trans R0_, (hW.cell (p := ⟨u3.heap.size, 1, none⟩) (lR)).trans R1_, (hW.cell (p := ⟨u3.heap.size, 2, none⟩) (lR)).trans R2_, (hW.cell (p := ⟨u3.heap.size, 3, none⟩) (lR)).trans R3_, (hW.cell (p := ⟨u3.heap.size, 4, none⟩) (lR)).trans R4_, (hW.cell (p := ⟨u3.heap.size, 5, none⟩) (lR)).trans R5_, (hW.cell (p := ⟨u3.heap.size, 6, none⟩) (lR)).trans R6_, (hW.cell (p := ⟨u3.heap.size, 7, none⟩) (lR)).trans R7_, (hW.cell (p := ⟨u3.heap.size, 8, none⟩) (lR)).trans R8_, (hW.cell (p := ⟨u3.heap.size, 9, none⟩) (lR)).trans R9_, (hW.cell (p := ⟨u1.heap.size, 0, none⟩) (lS)).trans S0_, (hW.cell (p := ⟨u1.heap.size, 1, none⟩) (lS)).trans S1_, (hW.cell (p := ⟨u1.heap.size, 2, none⟩) (lS)).trans S2_, (hW.cell (p := ⟨u1.heap.size, 3, none⟩) (lS)).trans S3_, (hW.cell (p := ⟨u1.heap.size, 4, none⟩) (lS)).trans S4_, (hW.cell (p := ⟨u1.heap.size, 5, none⟩) (lS)).trans S5_, (hW.cell (p := ⟨u1.heap.size, 6, none⟩) (lS)).trans S6_, (hW.cell (p := ⟨u1.heap.size, 7, none⟩) (lS)).trans S7_, (hW.cell (p := ⟨u1.heap.size, 8, none⟩) (lS)).trans S8_, (hW.cell (p := ⟨u1.heap.size, 9, none⟩) (lS)).trans S9_, (hW.cell (p := ⟨u9.heap.size, 0, none⟩) (lB)).trans b0, (hW.cell (p := ⟨u9.heap.size, 1, none⟩) (lB)).trans b1⟩, hW⟩ : (W.cell? ⟨u3.heap.size, 0, none⟩ = some (.slice p1.a1 u2.hs.length p1.c1) ∧ W.cell? ⟨u3.heap.size, 1, none⟩ = some (.slice p1.a2 u2.ts.length p1.c2) ∧ W.cell? ⟨u3.heap.size, 2, none⟩ = some (.slice p1.a3 u2.ns.length p1.c3) ∧ W.cell? ⟨u3.heap.size, 3, none⟩ = some (.int .i64 u2.r) ∧ W.cell? ⟨u3.heap.size, 4, none⟩ = some (.int .i64 u2.hd) ∧ W.cell? ⟨u3.heap.size, 5, none⟩ = some (.slice p1.a4 u2.ac.length p1.c4) ∧ W.cell? ⟨u3.heap.size, 6, none⟩ = some (.int .i64 u2.rt) ∧ W.cell? ⟨u3.heap.size, 7, none⟩ = some (.int .i64 u2.tm) ∧ W.cell? ⟨u3.heap.size, 8, none⟩ = some (.int .i64 u2.ls) ∧ W.cell? ⟨u3.heap.size, 9, none⟩ = some (.int .i64 u2.cm) ∧ W.cell? ⟨u1.heap.size, 0, none⟩ = some (.slice q.a1 u.hs.length q.c1) ∧ W.cell? ⟨u1.heap.size, 1, none⟩ = some (.slice q.a2 u.ts.length q.c2) ∧ W.cell? ⟨u1.heap.size, 2, none⟩ = some (.slice q.a3 u.ns.length q.c3) ∧ W.cell? ⟨u1.heap.size, 3, none⟩ = some (.int .i64 u.r) ∧ W.cell? ⟨u1.heap.size, 4, none⟩ = some (.int .i64 u.hd) ∧ W.cell? ⟨u1.heap.size, 5, none⟩ = some (.slice q.a4 u.ac.length q.c4) ∧ W.cell? ⟨u1.heap.size, 6, none⟩ = some (.int .i64 u.rt) ∧ W.cell? ⟨u1.heap.size, 7, none⟩ = some (.int .i64 u.tm) ∧ W.cell? ⟨u1.heap.size, 8, none⟩ = some (.int .i64 u.ls) ∧ W.cell? ⟨u1.heap.size, 9, none⟩ = some (.int .i64 u.cm) ∧ W.cell? ⟨u9.heap.size, 0, none⟩ = some (.int .i64 u.r) ∧ W.cell? ⟨u9.heap.size, 1, none⟩ = some (.int .i64 st)) ∧ Below U10.heap.size U10 W))
      refine wp_region_held_drew (S := (fun w' => (w'.cell? ⟨u3.heap.size, 0, none⟩ = some (.slice p1.a1 u2.hs.length p1.c1) ∧ w'.cell? ⟨u3.heap.size, 1, none⟩ = some (.slice p1.a2 u2.ts.length p1.c2) ∧ w'.cell? ⟨u3.heap.size, 2, none⟩ = some (.slice p1.a3 u2.ns.length p1.c3) ∧ w'.cell? ⟨u3.heap.size, 3, none⟩ = some (.int .i64 u2.r) ∧ w'.cell? ⟨u3.heap.size, 4, none⟩ = some (.int .i64 u2.hd) ∧ w'.cell? ⟨u3.heap.size, 5, none⟩ = some (.slice p1.a4 u2.ac.length p1.c4) ∧ w'.cell? ⟨u3.heap.size, 6, none⟩ = some (.int .i64 u2.rt) ∧ w'.cell? ⟨u3.heap.size, 7, none⟩ = some (.int .i64 u2.tm) ∧ w'.cell? ⟨u3.heap.size, 8, none⟩ = some (.int .i64 u2.ls) ∧ w'.cell? ⟨u3.heap.size, 9, none⟩ = some (.int .i64 u2.cm) ∧ w'.cell? ⟨u1.heap.size, 0, none⟩ = some (.slice q.a1 u.hs.length q.c1) ∧ w'.cell? ⟨u1.heap.size, 1, none⟩ = some (.slice q.a2 u.ts.length q.c2) ∧ w'.cell? ⟨u1.heap.size, 2, none⟩ = some (.slice q.a3 u.ns.length q.c3) ∧ w'.cell? ⟨u1.heap.size, 3, none⟩ = some (.int .i64 u.r) ∧ w'.cell? ⟨u1.heap.size, 4, none⟩ = some (.int .i64 u.hd) ∧ w'.cell? ⟨u1.heap.size, 5, none⟩ = some (.slice q.a4 u.ac.length q.c4) ∧ w'.cell? ⟨u1.heap.size, 6, none⟩ = some (.int .i64 u.rt) ∧ w'.cell? ⟨u1.heap.size, 7, none⟩ = some (.int .i64 u.tm) ∧ w'.cell? ⟨u1.heap.size, 8, none⟩ = some (.int .i64 u.ls) ∧ w'.cell? ⟨u1.heap.size, 9, none⟩ = some (.int .i64 u.cm) ∧ w'.cell? ⟨u9.heap.size, 0, none⟩ = some (.int .i64 u.r) ∧ w'.cell? ⟨u9.heap.size, 1, none⟩ = some (.int .i64 st)) ∧ Below U10.heap.size U10 w')) (by kernel_rfl) ?_ (fun hHeld => ?_)
      · exact ⟨⟨R0_, R1_, R2_, R3_, R4_, R5_, R6_, R7_, R8_, R9_, S0_, S1_, S2_, S3_, S4_, S5_, S6_, S7_, S8_, S9_, b0, b1⟩, (Below.refl _ _).drew⟩
      refine tk (i := 0) (v := ?v60) rfl ?c60 ?d_60
      case c60 => (refine .inl ⟨by rfl, ?_⟩; intro w h; (try dsimp only at h); go_simp <;> with_reducible rfl)
      try simp only [pt]
      refine tk (i := 1) (v := ?v61) rfl ?c61 ?d_61
      case c61 => (refine .inl ⟨by rfl, ?_⟩; intro w h; (try dsimp only at h); go_simp <;> with_reducible rfl)
      try simp only [pt]
      refine tk (i := 2) (v := ?v62) rfl ?c62 ?d_62
      case c62 => (refine .inl ⟨by rfl, ?_⟩; intro w h; (try dsimp only at h); go_simp <;> with_reducible rfl)
      try simp only [pt]
      refine tk (i := 3) (v := ?v63) rfl ?c63 ?d_63
      case c63 => (refine .inl ⟨by rfl, ?_⟩; intro w h; (try dsimp only at h); go_simp <;> with_reducible rfl)
      try simp only [pt]
      refine tk (i := 4) (v := ?v64) rfl ?c64 ?d_64
      case c64 => (refine .inl ⟨by rfl, ?_⟩; intro w h; (try dsimp only at h); go_simp <;> with_reducible rfl)
      try simp only [pt]
      refine tk (i := 5) (v := ?v65) rfl ?c65 ?d_65
      case c65 => (refine .inl ⟨by rfl, ?_⟩; intro w h; (try dsimp only at h); go_simp <;> with_reducible rfl)
      try simp only [pt]
      refine tk (i := 6) (v := ?v66) rfl ?c66 ?d_66
      case c66 => (refine .inl ⟨by rfl, ?_⟩; intro w h; (try dsimp only at h); go_simp <;> with_reducible rfl)
      try simp only [pt]
      refine tk (i := 7) (v := ?v67) rfl ?c67 ?d_67
      case c67 => (refine .inl ⟨by rfl, ?_⟩; intro w h; (try dsimp only at h); go_simp <;> with_reducible rfl)
      try simp only [pt]
      refine tk (i := 8) (v := ?v68) rfl ?c68 ?d_68
      case c68 => (refine .inl ⟨by rfl, ?_⟩; intro w h; (try dsimp only at h); go_simp <;> with_reducible rfl)
      try simp only [pt]
      refine tk (i := 9) (v := ?v69) rfl ?c69 ?d_69
      case c69 => (refine .inl ⟨by rfl, ?_⟩; intro w h; (try dsimp only at h); go_simp <;> with_reducible rfl)
      try simp only [pt]
      refine tk (i := 10) (v := ?v6a) rfl ?c6a ?d_6a
      case c6a => (refine .inl ⟨by rfl, ?_⟩; intro w h; (try dsimp only at h); go_simp <;> with_reducible rfl)
      try simp only [pt]
      refine tk (i := 11) (v := ?v6b) rfl ?c6b ?d_6b
      case c6b => (refine .inl ⟨by rfl, ?_⟩; intro w h; (try dsimp only at h); go_simp <;> with_reducible rfl)
      try simp only [pt]
      refine tk (i := 12) (v := ?v6c) rfl ?c6c ?d_6c
      case c6c => (refine .inl ⟨by rfl, ?_⟩; intro w h; (try dsimp only at h); go_simp <;> with_reducible rfl)
      try simp only [pt]
      refine tk (i := 13) (v := ?v6d) rfl ?c6d ?d_6d
      case c6d => (refine .inl ⟨by rfl, ?_⟩; intro w h; (try dsimp only at h); go_simp <;> with_reducible rfl)
      try simp only [pt]
      refine tk (i := 14) (v := ?v6e) rfl ?c6e ?d_6e
      case c6e => (refine .inl ⟨by rfl, ?_⟩; intro w h; (try dsimp only at h); go_simp <;> with_reducible rfl)
      try simp only [pt]
      refine tk (i := 15) (v := ?v6f) rfl ?c6f ?d_6f
      case c6f => (refine .inl ⟨by rfl, ?_⟩; intro w h; (try dsimp only at h); go_simp <;> with_reducible rfl)
      try simp only [pt]
      refine tk (i := 16) (v := ?v70) rfl ?c70 ?d_70
      case c70 => (refine .inl ⟨by rfl, ?_⟩; intro w h; (try dsimp only at h); go_simp <;> with_reducible rfl)
      try simp only [pt]
      refine tk (i := 17) (v := ?v71) rfl ?c71 ?d_71
      case c71 => (refine .inl ⟨by rfl, ?_⟩; intro w h; (try dsimp only at h); go_simp <;> with_reducible rfl)
      try simp only [pt]
      refine tk (i := 18) (v := ?v72) rfl ?c72 ?d_72
      case c72 => (refine .inl ⟨by rfl, ?_⟩; intro w h; (try dsimp only at h); go_simp <;> with_reducible rfl)
      try simp only [pt]
      refine tk (i := 19) (v := ?v73) rfl ?c73 ?d_73
      case c73 => (refine .inl ⟨by rfl, ?_⟩; intro w h; (try dsimp only at h); go_simp <;> with_reducible rfl)
      try simp only [pt]
      refine tk (i := 20) (v := ?v74) rfl ?c74 ?d_74
      case c74 => (refine .inl ⟨by rfl, ?_⟩; intro w h; (try dsimp only at h); go_simp <;> with_reducible rfl)
      try simp only [pt]
      refine tk (i := 23) (v := ?v75) rfl ?c75 ?d_75
      case c75 => (refine .inl ⟨by rfl, ?_⟩; intro w h; (try dsimp only at h); go_simp <;> with_reducible rfl)
      try simp only [pt]
      refine tk (i := 24) (v := ?v76) rfl ?c76 ?d_76
      case c76 => (refine .inl ⟨by rfl, ?_⟩; intro w h; (try dsimp only at h); go_simp <;> with_reducible rfl)
      try simp only [pt]
      refine tk (i := 25) (v := ?v77) rfl ?c77 ?d_77
      case c77 => (refine .inl ⟨by rfl, ?_⟩; intro w h; (try dsimp only at h); go_simp <;> with_reducible rfl)
      try simp only [pt]
      refine tk (i := 26) (v := ?v78) rfl ?c78 ?d_78
      case c78 => (refine .inl ⟨by rfl, ?_⟩; intro w h; (try dsimp only at h); go_simp <;> with_reducible rfl)
      try simp only [pt]
      refine tk (i := 27) (v := ?v79) rfl ?c79 ?d_79
      case c79 => (refine .inl ⟨by rfl, ?_⟩; intro w h; (try dsimp only at h); go_simp <;> with_reducible rfl)
      try simp only [pt]
      refine tk (i := 30) (v := ?v7a) rfl ?c7a ?d_7a
      case c7a => (refine .inl ⟨by rfl, ?_⟩; intro w h; (try dsimp only at h); go_simp <;> with_reducible rfl)
      try simp only [pt]
      refine wpAnyH_ready (rs := [21]) (by kernel_rfl) (by simp) (AllReadyH.cons (o := ?ooa29_q0) ?hia29_q0 (fun K hK => ?hka29_q0) AllReadyH.nil)
      case hia29_q0 => (simp only [List.getElem?_toArray, List.getElem?_cons_succ, List.getElem?_cons_zero]; rfl)
      case hka29_q0 =>
        (rw [if_pos (by rfl)]; go_simp; refine (iWhoAt q.a2 q.c2 u.ts u.tm _ (jq7 IS2.out hHeld.2).h2 IS2.out.n2 IS2.out.k2 wft).mono ?_; rintro e w21_ ⟨rfl, hb⟩; rw [hwho]; go_wp2_with fail; refine hK.out _ _ (HMK1.out _ (jq1 hHeld.2 hb)) (fun hHeld => ?_); clear hK K)
        try simp only [pt]
        refine wpAnyH_ready (rs := [22]) (by kernel_rfl) (by simp) (AllReadyH.cons (o := ?ooa30_q0) ?hia30_q0 (fun K hK => ?hka30_q0) AllReadyH.nil)
        case hia30_q0 => (simp only [List.getElem?_toArray, List.getElem?_cons_succ, List.getElem?_cons_zero]; rfl)
        case hka30_q0 =>
          (rw [if_pos (by rfl)]; go_simp; refine (CR.out who _ (jq7 IR2.out hHeld.2)).mono ?_; rintro e w22_ ⟨rfl, hb⟩; go_wp2_with fail; refine hK.out _ _ (HMK1.out _ (jq1 hHeld.2 hb)) (fun hHeld => ?_); clear hK K)
          try simp only [pt]
          refine wpAnyH_ready (rs := [28]) (by kernel_rfl) (by simp) (AllReadyH.cons (o := ?ooa31_q0) ?hia31_q0 (fun K hK => ?hka31_q0) AllReadyH.nil)
          case hia31_q0 => (simp only [List.getElem?_toArray, List.getElem?_cons_succ, List.getElem?_cons_zero]; rfl)
          case hka31_q0 =>
            (rw [if_pos (by rfl)]; go_simp; refine (iWhoAt q.a2 q.c2 u.ts u.tm _ (jq7 IS2.out hHeld.2).h2 IS2.out.n2 IS2.out.k2 wft).mono ?_; rintro e w28_ ⟨rfl, hb⟩; rw [hwho]; go_wp2_with fail; refine hK.out _ _ (HMK1.out _ (jq1 hHeld.2 hb)) (fun hHeld => ?_); clear hK K)
            try simp only [pt]
            refine wpAnyH_ready (rs := [29]) (by kernel_rfl) (by simp) (AllReadyH.cons (o := ?ooa32_q0) ?hia32_q0 (fun K hK => ?hka32_q0) AllReadyH.nil)
            case hia32_q0 => (simp only [List.getElem?_toArray, List.getElem?_cons_succ, List.getElem?_cons_zero]; rfl)
            case hka32_q0 =>
              (rw [if_pos (by rfl)]; go_simp; refine (CT.out who _ (jq7 IS2.out hHeld.2)).mono ?_; rintro e w29_ ⟨rfl, hb⟩; go_wp2_with fail; refine hK.out _ _ (HMK1.out _ (jq1 hHeld.2 hb)) (fun hHeld => ?_); clear hK K)
              try simp only [pt]
              refine tk (i := 31) (v := ?v7b) rfl ?c7b ?d_7b
              case c7b => (refine .inl ⟨by rfl, ?_⟩; intro w h; (try dsimp only at h); go_simp <;> with_reducible rfl)
              try simp only [pt]
              refine tk (i := 32) (v := ?v7c) rfl ?c7c ?d_7c
              case c7c => (refine .inl ⟨by rfl, ?_⟩; intro w h; (try dsimp only at h); go_simp <;> with_reducible rfl)
              try simp only [pt]
              refine tk (i := 33) (v := ?v7d) rfl ?c7d ?d_7d
              case c7d => (refine .inl ⟨by rfl, ?_⟩; intro w h; (try dsimp only at h); go_simp <;> with_reducible rfl)
              try simp only [pt]
              refine tk (i := 34) (v := ?v7e) rfl ?c7e ?d_7e
              case c7e => (refine .inl ⟨by rfl, ?_⟩; intro w h; (try dsimp only at h); go_simp <;> with_reducible rfl)
              try simp only [pt]
              refine wpAnyH_done (by kernel_rfl) ?_ _; clear HMK1; have B9 := jq1 HB.out hHeld.2; clear hHeld; go_wp2_with fail; go_ret; exact ⟨rfl, B9⟩
    · have e0 : (x.k != 5) = true := by simpa using k5
      have hsm : u2.r = u.r ∧ u2.hd = u.hd ∧ u2.ac = u.ac ∧ u2.ls = u.ls := by
        rcases hsh with h | h
        · exact ⟨h.2.1, h.2.2.1, h.2.2.2.1, h.2.2.2.2.2.2.1⟩
        · exact absurd h.1 k5
      clear hsh k5 hv ha hv2; replace hsm := Lib.hid hsm
      go_wp2_with (first | (show wpList _ _ _ ({ dst := some _, op := _, type := _, pos := _, after := _, guard := _ } :: _) _ (World.alloc _ _); rw [← HU6.out]))
      refine (eqTw p1 p2 u2 _ IR IM).mono ?_; rintro e u7 ⟨rfl, C⟩; clear M0_ M1_ M2_ M3_ M4_ M5_ M6_ M7_ M8_ M9_ R0_ R1_ R2_ R3_ R4_ R5_ R6_ R7_ R8_ R9_; replace KS := KS.next C; replace KE := KE.next C; replace KR := KR.next C; replace KM := KM.next C; replace B := jq1 B C; replace D := jq1 D C; replace IR := jq7 IR C; replace IM := jq7 IM C; clear C; replace hsm := hsm.out; obtain ⟨R0_, R1_, R2_, R3_, R4_, R5_, R6_, R7_, R8_, R9_⟩ := jq0 KR; obtain ⟨S0_, S1_, S2_, S3_, S4_, S5_, S6_, S7_, S8_, S9_⟩ := jq0 KS; obtain ⟨E0_, E1_, E2_, E3_, E4_, E5_, E6_, E7_, E8_⟩ := jqa KE
      have e1 : (u2.r == u.r) = true := by simp [hsm.1]
      have e2 : (u2.hd == u.hd) = true := by simp [hsm.2.1]
      have e3 : (u2.ls == u.ls) = true := by simp [hsm.2.2.2]
      clear hsm; go_wp2_with fail; go_ret; exact ⟨rfl, B⟩

theorem lifted (os : Os) (started : os.Started) (H : Type) (enc : TypeId × Value → H) :
  ReturnsInHanded {} Tryz.checked os 5 .any (Rows.fnApplyEventStepSpec.pre6 enc Tryz.prog Tryz.f5 Rows.fnApplyEventStepRow.domain false) (Rows.fnApplyEventStepSpec.post enc Tryz.prog Tryz.f5 false true false false) := by
 refine returnsInHanded_of_change (C := Tryz.checked) own started (by kernel_rfl) Tryz.func5
  (ChangeSpec.witness6 (enc := enc) (C := Tryz.checked) false ⟨#[], #[.slice none 0 0], []⟩ 8 (by kernel_rfl) (by kernel_rfl) (by kernel_rfl) (by kernel_rfl)) ?_
 intro W base args ds gs before hval0 hW hcnd _; have hval : ∀ (j : Nat) t v, Tryz.f5.params[j]? = some t → args[j]? = some v → Value.okWide Tryz.prog W .any base t v := hval0; have hW' := hW; obtain ⟨p, q, hA0, hV, rfl, hfz, hnd⟩ := hW; have hA : DataW.TrodAll enc Tryz.prog W 0 (fun _ => true) true Tryz.f5.params.toList args.toList ds p := hA0; rw [Tryz.params5] at hA hval; obtain ⟨v0, vs0, e0, es0, p0, q0, hargs, rfl, rfl, h0, r0⟩ := trodAll_cons hA; obtain ⟨rfl, rfl, rfl⟩ := trodAll_nil r0
 obtain rfl : args = #[v0] := by cases args; simp_all
 obtain ⟨rfl, rfl⟩ := trodVars_none hV; have k0 := h0
 have lt0 : ∀ x ∈ p0, x.block < W.heap.size := by obtain ⟨m, hm⟩ := k0; exact DataW.trod_lt m _ _ _ hm
 obtain ⟨a0, len0, cap0, rfl⟩ := okWide_slice Tryz.underlying22 (hval 0 22 v0 rfl rfl)
 obtain ⟨z0, w0⟩ : ∃ zs, IsRow .u8 W a0 len0 cap0 zs := by
  obtain ⟨fuel, hf⟩ := h0
  rcases open_ints Tryz.underlying22 Tryz.underlying5 (by kernel_rfl) hf with ⟨hcs, _⟩ | ⟨x, l, c, zs, hcs, _, hl, hm, hz, _, hcell, hwz⟩
  ·simp [Value.cells] at hcs
   obtain ⟨rfl, rfl, rfl⟩ := hcs; exact ⟨[], .inl ⟨rfl, rfl, rfl, rfl⟩⟩
  ·simp [Value.cells] at hcs
   obtain ⟨rfl, rfl, rfl⟩ := hcs; exact ⟨zs, .inr ⟨_, rfl, hl, hm, by simpa using hz, hcell, hwz⟩⟩
 clear hA0 hval0
 refine (walk a0 len0 cap0 z0 W w0).mono fun e W' ⟨he, bel⟩ => ?_
 subst he; exact ⟨_, rfl, _, _, _, [], _, [], hW', trodAll_mk1 (shut_bool Tryz.underlying4 _), (trodAll_cons_mk (Below.trod laidOut (by kernel_rfl) (of_decide_eq_true (by kernel_rfl)) k0 bel lt0) trodAll_mk0), rfl, bel.frame _, fun h => by cases h⟩

theorem over : Rows.fnApplyEventStepRow.holds Tryz.pinned (OpenSpec.ofChange Rows.fnApplyEventStepSpec) :=
 OpenClaim.holds_of_wide 5 Tryz.f5 rfl rfl rfl rfl rfl rfl rfl ⟨rfl, rfl, rfl, rfl, rfl⟩ rfl rfl rfl rfl rfl (by kernel_rfl) Tryz.func5 (by kernel_rfl)
  (of_decide_eq_true (by kernel_rfl)) (by unfold Func.isWrapper; first | (rw [if_pos (by decide +kernel)]; kernel_rfl) | (rw [if_neg (by decide +kernel)]; exact ⟨rfl, rfl⟩))
  (fun os started H enc _ => lifted os started H enc)

end Go.Proofs.YtaehemmjemhgpabGreat.fnApplyEventStep
namespace Go.Proofs.YtaehemmjemhgpabGreat
theorem fnApplyEventStep_holds : Rows.FnApplyEventStepSaid := fnApplyEventStep.over
end Go.Proofs.YtaehemmjemhgpabGreat
