/- For every input the law answers true, and its argument reads afterwards as before: the hour belongs to its owner. No condition. -/
import Derived.Test.YtaehemmjemhgpabGreatZAG0
import Derived.Test.YtaehemmjemhgpabGreatRows
import Derived.Test.YtaehemmjemhgpabGreatZADrawTe
import Derived.Test.YtaehemmjemhgpabGreatZAApI
import Derived.Test.YtaehemmjemhgpabGreatZAG9
import Derived.Test.YtaehemmjemhgpabGreatZAG3
import Derived.Test.YtaehemmjemhgpabGreatZAG7
import Derived.Test.YtaehemmjemhgpabGreatZAG2
import Derived.Test.YtaehemmjemhgpabGreatZAG4
import Derived.WalkKit
import Derived.ProofKit
import Derived.OpenShut
import Derived.ShutString
import Derived.ChangeOld
import Derived.Below
import Derived.Lib.SmallJoins
set_option maxRecDepth 100000
set_option maxHeartbeats 16000000
namespace Go.Proofs.YtaehemmjemhgpabGreat.fnApplyEventHour
open Go.ChangeShapes Go.WideShapes Go.ChangeAt Go.RowKit Go.Joins
open Go.ChangeMaps (open_string shut_string)
set_option linter.unusedVariables false
set_option linter.unusedSimpArgs false

theorem own : ownKnob Tryz.prog.godebug = none := by kernel_rfl
theorem laidOut : laidOutB Tryz.prog = true := by kernel_rfl
theorem aev_is {t : Tw} {x : Ev} (h : aevB t x = true) : twB t = true ∧ apT t x = some (aevU t x) := by
 unfold aevB at h; rw [Bool.and_eq_true] at h; obtain ⟨h1, h2⟩ := h; refine ⟨h1, ?_⟩; rw [(aev_yes h1).2]; unfold apB at h2; unfold apU; obtain ⟨u, hu⟩ := Option.isSome_iff_exists.1 h2; rw [hu]; rfl
theorem wf_smallE {n : Int} (h : -1000000 ≤ n ∧ n ≤ 1000000) : (Lit.int .i64 n).wf = true := by
 have e1 : IntKind.i64.min = -9223372036854775808 := by decide +kernel
 have e2 : IntKind.i64.max = 9223372036854775807 := by decide +kernel
 show (decide (IntKind.i64.min ≤ n) && decide (n ≤ IntKind.i64.max)) = true
 rw [e1, e2, decide_eq_true (by omega : (-9223372036854775808 : Int) ≤ n), decide_eq_true (by omega : n ≤ 9223372036854775807)]; rfl

theorem walk (a0 : Option Addr) (len0 cap0 : Nat) (z0 : List Int) (w : World) (w0 : IsRow .u8 w a0 len0 cap0 z0) :
    Calls Tryz.prog 4 #[.slice a0 len0 cap0] w fun e w' => e = .returned (.bool true) ∧ Below w.heap.size w w' := by
  by_cases big : (1048576 : Int) < (len0 : Int)
  · go_enter Tryz.func4, Tryz.ntmps4
    go_wp2
    go_ret; exact ⟨rfl, Below.refl _ _⟩
  go_enter Tryz.func4, Tryz.ntmps4; go_wp2_with fail; refine (drawAE a0 len0 cap0 z0 _ w0).mono ?_; rintro e u1 ⟨q, u, A, cz, x, rfl, hI, z4, zc, hZ, zab, B⟩; clear w0 big zab; have HI := Lib.hid (fun W (hW : Below u1.heap.size u1 W) => jq7 hI hW); have CI := Lib.hid (fun W (hW : Below u1.heap.size u1 W) => (iApply q.a1 q.a2 q.a3 q.a4 q.c1 q.c2 q.c3 q.c4 u.hs u.ts u.ns u.r u.hd u.ac u.rt u.tm u.ls u.cm x.k x.dd.k x.dd.o x.dd.t x.dd.n x.dd.d A x.dd.zs cz x.at_ x.nu W (jq7 hI hW) (jqf hZ hW) (by omega) zc : Calls Tryz.prog 11 #[.agg #[.slice q.a1 u.hs.length q.c1, .slice q.a2 u.ts.length q.c2, .slice q.a3 u.ns.length q.c3, .int .i64 u.r, .int .i64 u.hd, .slice q.a4 u.ac.length q.c4, .int .i64 u.rt, .int .i64 u.tm, .int .i64 u.ls, .int .i64 u.cm], .agg #[.int .i64 x.k, .int .i64 x.dd.k, .int .i64 x.dd.o, .int .i64 x.dd.t, .int .i64 x.dd.n, .int .i64 x.dd.d, .slice A x.dd.zs.length cz, .int .i64 x.at_, .int .i64 x.nu]] W (OutTB W (aevB u x) (aevU u x)))); have CS := Lib.hid (fun W (hW : Below u1.heap.size u1 W) => (sApply q.a1 q.a2 q.a3 q.a4 q.c1 q.c2 q.c3 q.c4 u.hs u.ts u.ns u.r u.hd u.ac u.rt u.tm u.ls u.cm x.k x.dd.k x.dd.o x.dd.t x.dd.n x.dd.d A x.dd.zs cz x.at_ x.nu W (jq7 hI hW) (jqf hZ hW) (by omega) zc : Calls Tryz.prog 12 #[.agg #[.slice q.a1 u.hs.length q.c1, .slice q.a2 u.ts.length q.c2, .slice q.a3 u.ns.length q.c3, .int .i64 u.r, .int .i64 u.hd, .slice q.a4 u.ac.length q.c4, .int .i64 u.rt, .int .i64 u.tm, .int .i64 u.ls, .int .i64 u.cm], .agg #[.int .i64 x.k, .int .i64 x.dd.k, .int .i64 x.dd.o, .int .i64 x.dd.t, .int .i64 x.dd.n, .int .i64 x.dd.d, .slice A x.dd.zs.length cz, .int .i64 x.at_, .int .i64 x.nu]] W (OutTB W (aevB u x) (aevU u x))))
  have HIS := Lib.hid (@aev_is u x)
  have HNO : Hid (aevB u x = false → aevU u x = Tw.zero) := fun h => by
    cases hv : twB u with
    | false => exact (aev_no hv).2
    | true =>
      rw [(aev_yes hv).1] at h; rw [(aev_yes hv).2]; unfold apB at h; unfold apU
      cases ha : apT u x with
      | none => rfl
      | some v => rw [ha] at h; cases h
  have HZ0 := Lib.hid hZ
  have HZ4 : Hid (x.dd.zs.length ≤ 4 ∧ x.dd.zs.length ≤ cz) := ⟨z4, zc⟩
  clear hI hZ z4 zc
  obtain ⟨b, hb⟩ : ∃ b, aevB u x = b := ⟨_, rfl⟩
  obtain ⟨tn2, hu2⟩ : ∃ v, aevU u x = v := ⟨_, rfl⟩
  rw [hb, hu2] at CI CS HNO HIS; clear hb hu2
  have DA : Below u1.heap.size u1 ((u1.alloc (.cells #[.slice none 0 0, .slice none 0 0, .slice none 0 0, .int .i64 0, .int .i64 0, .slice none 0 0, .int .i64 0, .int .i64 0, .int .i64 0, .int .i64 0] 30)).alloc (.cells #[.int .i64 0, .int .i64 0, .int .i64 0, .int .i64 0, .int .i64 0, .int .i64 0, .slice none 0 0, .int .i64 0, .int .i64 0] 37)) := by go_grown
  have HKA : Hid (Blk ((u1.alloc (.cells #[.slice none 0 0, .slice none 0 0, .slice none 0 0, .int .i64 0, .int .i64 0, .slice none 0 0, .int .i64 0, .int .i64 0, .int .i64 0, .int .i64 0] 30)).alloc (.cells #[.int .i64 0, .int .i64 0, .int .i64 0, .int .i64 0, .int .i64 0, .int .i64 0, .slice none 0 0, .int .i64 0, .int .i64 0] 37)) u1.heap.size 30 #[.slice none 0 0, .slice none 0 0, .slice none 0 0, .int .i64 0, .int .i64 0, .slice none 0 0, .int .i64 0, .int .i64 0, .int .i64 0, .int .i64 0]) := (Blk.new _ _ _).alloc _
  have HKB : Hid (Blk ((u1.alloc (.cells #[.slice none 0 0, .slice none 0 0, .slice none 0 0, .int .i64 0, .int .i64 0, .slice none 0 0, .int .i64 0, .int .i64 0, .int .i64 0, .int .i64 0] 30)).alloc (.cells #[.int .i64 0, .int .i64 0, .int .i64 0, .int .i64 0, .int .i64 0, .int .i64 0, .slice none 0 0, .int .i64 0, .int .i64 0] 37)) (u1.heap.size + 1) 37 #[.int .i64 0, .int .i64 0, .int .i64 0, .int .i64 0, .int .i64 0, .int .i64 0, .slice none 0 0, .int .i64 0, .int .i64 0]) := by
    have := Blk.new (u1.alloc (.cells #[.slice none 0 0, .slice none 0 0, .slice none 0 0, .int .i64 0, .int .i64 0, .slice none 0 0, .int .i64 0, .int .i64 0, .int .i64 0, .int .i64 0] 30)) 37 #[.int .i64 0, .int .i64 0, .int .i64 0, .int .i64 0, .int .i64 0, .int .i64 0, .slice none 0 0, .int .i64 0, .int .i64 0]; rw [World.size_alloc] at this; exact this
  obtain ⟨y1, hy1⟩ : ∃ Y_, Y_ = jq9 ((u1.alloc (.cells #[.slice none 0 0, .slice none 0 0, .slice none 0 0, .int .i64 0, .int .i64 0, .slice none 0 0, .int .i64 0, .int .i64 0, .int .i64 0, .int .i64 0] 30)).alloc (.cells #[.int .i64 0, .int .i64 0, .int .i64 0, .int .i64 0, .int .i64 0, .int .i64 0, .slice none 0 0, .int .i64 0, .int .i64 0] 37)) u1.heap.size (.slice q.a1 u.hs.length q.c1) (.slice q.a2 u.ts.length q.c2) (.slice q.a3 u.ns.length q.c3) (.int .i64 u.r) (.int .i64 u.hd) (.slice q.a4 u.ac.length q.c4) (.int .i64 u.rt) (.int .i64 u.tm) (.int .i64 u.ls) (.int .i64 u.cm) := ⟨_, rfl⟩
  have D1 : Below u1.heap.size u1 y1 := by rw [hy1]; exact DA.trans (jxh (Nat.le_refl _) _ _ _ _ _ _ _ _ _ _)
  have KS1 : Blk y1 u1.heap.size 30 #[.slice q.a1 u.hs.length q.c1, .slice q.a2 u.ts.length q.c2, .slice q.a3 u.ns.length q.c3, .int .i64 u.r, .int .i64 u.hd, .slice q.a4 u.ac.length q.c4, .int .i64 u.rt, .int .i64 u.tm, .int .i64 u.ls, .int .i64 u.cm] := by
    have := jze (v0 := .slice q.a1 u.hs.length q.c1) (v1 := .slice q.a2 u.ts.length q.c2) (v2 := .slice q.a3 u.ns.length q.c3) (v3 := .int .i64 u.r) (v4 := .int .i64 u.hd) (v5 := .slice q.a4 u.ac.length q.c4) (v6 := .int .i64 u.rt) (v7 := .int .i64 u.tm) (v8 := .int .i64 u.ls) (v9 := .int .i64 u.cm) HKA.out; rw [← hy1] at this; exact this
  have HKB1 : Hid (Blk y1 (u1.heap.size + 1) 37 #[.int .i64 0, .int .i64 0, .int .i64 0, .int .i64 0, .int .i64 0, .int .i64 0, .slice none 0 0, .int .i64 0, .int .i64 0]) := X10f HKB.out hy1 (by omega)
  obtain ⟨y2, hy2⟩ : ∃ Y_, Y_ = sets9 y1 (u1.heap.size + 1) (.int .i64 x.k) (.int .i64 x.dd.k) (.int .i64 x.dd.o) (.int .i64 x.dd.t) (.int .i64 x.dd.n) (.int .i64 x.dd.d) (.slice A x.dd.zs.length cz) (.int .i64 x.at_) (.int .i64 x.nu) := ⟨_, rfl⟩
  have D : Below u1.heap.size u1 y2 := by rw [hy2]; exact D1.trans (jj0 (Nat.le_succ _) _ _ _ _ _ _ _ _ _)
  have KS : Blk y2 u1.heap.size 30 #[.slice q.a1 u.hs.length q.c1, .slice q.a2 u.ts.length q.c2, .slice q.a3 u.ns.length q.c3, .int .i64 u.r, .int .i64 u.hd, .slice q.a4 u.ac.length q.c4, .int .i64 u.rt, .int .i64 u.tm, .int .i64 u.ls, .int .i64 u.cm] := KS1.sets9f hy2 (by omega)
  have KE : Blk y2 (u1.heap.size + 1) 37 #[.int .i64 x.k, .int .i64 x.dd.k, .int .i64 x.dd.o, .int .i64 x.dd.t, .int .i64 x.dd.n, .int .i64 x.dd.d, .slice A x.dd.zs.length cz, .int .i64 x.at_, .int .i64 x.nu] := by
    have := jxg (v0 := .int .i64 x.k) (v1 := .int .i64 x.dd.k) (v2 := .int .i64 x.dd.o) (v3 := .int .i64 x.dd.t) (v4 := .int .i64 x.dd.n) (v5 := .int .i64 x.dd.d) (v6 := .slice A x.dd.zs.length cz) (v7 := .int .i64 x.at_) (v8 := .int .i64 x.nu) HKB1.out; rw [← hy2] at this; exact this
  replace B := B.trans (D.mono B.size); have HY1 := Lib.hid hy1; have HY2 := Lib.hid hy2; clear hy1 hy2 KS1 D1 DA; obtain ⟨S0_, S1_, S2_, S3_, S4_, S5_, S6_, S7_, S8_, S9_⟩ := jq0 KS; obtain ⟨E0_, E1_, E2_, E3_, E4_, E5_, E6_, E7_, E8_⟩ := jqa KE
  go_wp2_with (first | (show wpList _ _ _ ({ dst := _, op := Op.store _ _ _, type := _, pos := _, after := _, guard := _ } :: _) _ _; refine jzc rfl _ _ _ rfl u1.heap.size (.slice q.a1 u.hs.length q.c1) (.slice q.a2 u.ts.length q.c2) (.slice q.a3 u.ns.length q.c3) (.int .i64 u.r) (.int .i64 u.hd) (.slice q.a4 u.ac.length q.c4) (.int .i64 u.rt) (.int .i64 u.tm) (.int .i64 u.ls) (.int .i64 u.cm) rfl rfl HKA.out (by kernel_rfl) rfl ?_; rw [← HY1.out]) | (show wpList _ _ _ ({ dst := _, op := Op.store _ _ _, type := _, pos := _, after := _, guard := _ } :: _) _ _; refine jxj rfl _ _ _ rfl (u1.heap.size + 1) (.int .i64 x.k) (.int .i64 x.dd.k) (.int .i64 x.dd.o) (.int .i64 x.dd.t) (.int .i64 x.dd.n) (.int .i64 x.dd.d) (.slice A x.dd.zs.length cz) (.int .i64 x.at_) (.int .i64 x.nu) rfl rfl HKB1.out (by kernel_rfl) rfl ?_; rw [← HY2.out]))
  clear HKA HKB HKB1 HY1 HY2; refine (CI.out _ D).mono ?_; rintro e u3 ⟨p1, he, OR, C⟩; change e = .returned (.tuple #[.agg #[.slice p1.a1 tn2.hs.length p1.c1, .slice p1.a2 tn2.ts.length p1.c2, .slice p1.a3 tn2.ns.length p1.c3, .int .i64 tn2.r, .int .i64 tn2.hd, .slice p1.a4 tn2.ac.length p1.c4, .int .i64 tn2.rt, .int .i64 tn2.tm, .int .i64 tn2.ls, .int .i64 tn2.cm], .bool b]) at he; subst he; clear E0_ E1_ E2_ E3_ E4_ E5_ E6_ E7_ E8_ S0_ S1_ S2_ S3_ S4_ S5_ S6_ S7_ S8_ S9_; replace KS := KS.next C; replace KE := KE.next C; replace B := jq1 B C; replace D := jq1 D C; have IR := OR.is; clear C OR CI
  obtain ⟨U4, hU4⟩ : ∃ y, y = u3.alloc (.cells #[.slice p1.a1 tn2.hs.length p1.c1, .slice p1.a2 tn2.ts.length p1.c2, .slice p1.a3 tn2.ns.length p1.c3, .int .i64 tn2.r, .int .i64 tn2.hd, .slice p1.a4 tn2.ac.length p1.c4, .int .i64 tn2.rt, .int .i64 tn2.tm, .int .i64 tn2.ls, .int .i64 tn2.cm] 30) := ⟨_, rfl⟩
  have D4 : Below u3.heap.size u3 U4 := by subst hU4; exact (Below.refl _ _).alloc (Nat.le_refl _) _
  have KR : Blk U4 u3.heap.size 30 #[.slice p1.a1 tn2.hs.length p1.c1, .slice p1.a2 tn2.ts.length p1.c2, .slice p1.a3 tn2.ns.length p1.c3, .int .i64 tn2.r, .int .i64 tn2.hd, .slice p1.a4 tn2.ac.length p1.c4, .int .i64 tn2.rt, .int .i64 tn2.tm, .int .i64 tn2.ls, .int .i64 tn2.cm] := by subst hU4; exact Blk.new _ _ _
  replace KS := KS.next D4; replace KE := KE.next D4; replace B := jq1 B D4; replace D := jq1 D D4; replace IR := jq7 IR D4; have HU4 := Lib.hid hU4; clear hU4 D4; obtain ⟨S0_, S1_, S2_, S3_, S4_, S5_, S6_, S7_, S8_, S9_⟩ := jq0 KS; obtain ⟨E0_, E1_, E2_, E3_, E4_, E5_, E6_, E7_, E8_⟩ := jqa KE
  go_wp2_with (first | (show wpList _ _ _ ({ dst := some _, op := _, type := _, pos := _, after := _, guard := _ } :: _) _ (World.alloc _ _); rw [← HU4.out]))
  refine (CS.out _ D).mono ?_; rintro e u5 ⟨p2, he, OM, C⟩; change e = .returned (.tuple #[.agg #[.slice p2.a1 tn2.hs.length p2.c1, .slice p2.a2 tn2.ts.length p2.c2, .slice p2.a3 tn2.ns.length p2.c3, .int .i64 tn2.r, .int .i64 tn2.hd, .slice p2.a4 tn2.ac.length p2.c4, .int .i64 tn2.rt, .int .i64 tn2.tm, .int .i64 tn2.ls, .int .i64 tn2.cm], .bool b]) at he; subst he; clear E0_ E1_ E2_ E3_ E4_ E5_ E6_ E7_ E8_ S0_ S1_ S2_ S3_ S4_ S5_ S6_ S7_ S8_ S9_; replace KS := KS.next C; replace KE := KE.next C; replace KR := KR.next C; replace B := jq1 B C; replace D := jq1 D C; replace IR := jq7 IR C; have IM := OM.is; clear C OM CS HU4
  obtain ⟨U6, hU6⟩ : ∃ y, y = u5.alloc (.cells #[.slice p2.a1 tn2.hs.length p2.c1, .slice p2.a2 tn2.ts.length p2.c2, .slice p2.a3 tn2.ns.length p2.c3, .int .i64 tn2.r, .int .i64 tn2.hd, .slice p2.a4 tn2.ac.length p2.c4, .int .i64 tn2.rt, .int .i64 tn2.tm, .int .i64 tn2.ls, .int .i64 tn2.cm] 30) := ⟨_, rfl⟩
  have D4 : Below u5.heap.size u5 U6 := by subst hU6; exact (Below.refl _ _).alloc (Nat.le_refl _) _
  have KM : Blk U6 u5.heap.size 30 #[.slice p2.a1 tn2.hs.length p2.c1, .slice p2.a2 tn2.ts.length p2.c2, .slice p2.a3 tn2.ns.length p2.c3, .int .i64 tn2.r, .int .i64 tn2.hd, .slice p2.a4 tn2.ac.length p2.c4, .int .i64 tn2.rt, .int .i64 tn2.tm, .int .i64 tn2.ls, .int .i64 tn2.cm] := by subst hU6; exact Blk.new _ _ _
  replace KS := KS.next D4; replace KE := KE.next D4; replace KR := KR.next D4; replace B := jq1 B D4; replace D := jq1 D D4; replace IR := jq7 IR D4; replace IM := jq7 IM D4; have HU6 := Lib.hid hU6; clear hU6 D4; obtain ⟨R0_, R1_, R2_, R3_, R4_, R5_, R6_, R7_, R8_, R9_⟩ := jq0 KR; obtain ⟨M0_, M1_, M2_, M3_, M4_, M5_, M6_, M7_, M8_, M9_⟩ := jq0 KM
  cases b with
  | false =>
    go_wp2_with (first | (show wpList _ _ _ ({ dst := some _, op := _, type := _, pos := _, after := _, guard := _ } :: _) _ (World.alloc _ _); rw [← HU6.out]))
    refine (eqTw p1 p2 tn2 _ IR IM).mono ?_; rintro e u7 ⟨rfl, C⟩; clear M0_ M1_ M2_ M3_ M4_ M5_ M6_ M7_ M8_ M9_ R0_ R1_ R2_ R3_ R4_ R5_ R6_ R7_ R8_ R9_; replace KS := KS.next C; replace KE := KE.next C; replace KR := KR.next C; replace KM := KM.next C; replace B := jq1 B C; replace D := jq1 D C; replace IR := jq7 IR C; replace IM := jq7 IM C; clear C; obtain ⟨R0_, R1_, R2_, R3_, R4_, R5_, R6_, R7_, R8_, R9_⟩ := jq0 KR; obtain ⟨M0_, M1_, M2_, M3_, M4_, M5_, M6_, M7_, M8_, M9_⟩ := jq0 KM; go_wp2_with fail; refine (eqTw p1 p2 tn2 _ IR IM).mono ?_; rintro e u8 ⟨rfl, C⟩; clear M0_ M1_ M2_ M3_ M4_ M5_ M6_ M7_ M8_ M9_ R0_ R1_ R2_ R3_ R4_ R5_ R6_ R7_ R8_ R9_; replace KS := KS.next C; replace KE := KE.next C; replace KR := KR.next C; replace KM := KM.next C; replace B := jq1 B C; replace D := jq1 D C; replace IR := jq7 IR C; replace IM := jq7 IM C; clear C; go_wp2_with fail; go_ret; exact ⟨rfl, B⟩
  | true =>
    obtain ⟨hv, ha⟩ := HIS.out rfl; have hv2 := (ap_is ha).2; have hsh := ap_shape ha; clear HIS HNO
    by_cases k5 : x.k = 5
    · have e0 : (x.k != 5) = false := by simp [k5]
      have hu : ∀ o, untV tn2.ac o = untV u.ac o + (if o = whoM u.ts u.tm then jzh u.hd (x.nu - jqj u.ns x.nu) u.rt else 0) ∧ 0 ≤ jzh u.hd (x.nu - jqj u.ns x.nu) u.rt ∧ jzh u.hd (x.nu - jqj u.ns x.nu) u.rt ≤ u.rt := fun o => ap_units hv ha k5 o
      have hbd : ∀ (t : Tw), twB t = true → ∀ o, 0 ≤ untV t.ac o ∧ untV t.ac o ≤ 1000000 := fun t ht o => by
        have a := unt_le (tw_ac ht) o; have b := tw_sum ht; have c := tw_nums ht
        omega
      have hrt := (tw_ok hv).v6
      have hwho : whoV u.ts u.tm = whoM u.ts u.tm := by
        have h := tw_ok hv; unfold whoV; rw [h.v2, decide_eq_true h.v7.1, decide_eq_true h.v7.2]; rfl
      have wft : (Lit.int .i64 u.tm).wf = true := wf_smallE (by have := (tw_ok hv).v7; omega)
      have HG0 : ∀ o : Int, untV tn2.ac o = untV u.ac o + (if o = whoM u.ts u.tm then jzh u.hd (x.nu - jqj u.ns x.nu) u.rt else 0) ∧ (0 ≤ jzh u.hd (x.nu - jqj u.ns x.nu) u.rt ∧ jzh u.hd (x.nu - jqj u.ns x.nu) u.rt ≤ u.rt) ∧ (0 ≤ untV u.ac o ∧ untV u.ac o ≤ 1000000) ∧ (0 ≤ untV tn2.ac o ∧ untV tn2.ac o ≤ 1000000) ∧ (0 ≤ u.rt ∧ u.rt ≤ 500) := fun o => ⟨(hu o).1, (hu o).2, hbd u hv o, hbd tn2 hv2 o, hrt⟩
      have CR := Lib.hid (fun (o : Int) W (hW : IsTw W p1 tn2) => (by have h := iUnitsTo p1 tn2 o W hW; rw [unV_yes hv2] at h; exact h : Calls Tryz.prog 17 #[twV p1 tn2, .int .i64 o] W fun e w' => e = .returned (.int .i64 (untV tn2.ac o)) ∧ Below W.heap.size W w')); have CT := Lib.hid (fun (o : Int) W (hW : IsTw W q u) => (by have h := iUnitsTo q u o W hW; rw [unV_yes hv] at h; exact h : Calls Tryz.prog 17 #[twV q u, .int .i64 o] W fun e w' => e = .returned (.int .i64 (untV u.ac o)) ∧ Below W.heap.size W w')); generalize whoM u.ts u.tm = who at *; generalize jzh u.hd (x.nu - jqj u.ns x.nu) u.rt = give at *; have HG := Lib.hid HG0; clear hu hbd HG0 hv hv2 ha hsh k5 hrt
      go_wp2_with (first | (show wpList _ _ _ ({ dst := some _, op := _, type := _, pos := _, after := _, guard := _ } :: _) _ (World.alloc _ _); rw [← HU6.out]))
      refine (eqTw p1 p2 tn2 _ IR IM).mono ?_; rintro e u7 ⟨rfl, C⟩; clear M0_ M1_ M2_ M3_ M4_ M5_ M6_ M7_ M8_ M9_ R0_ R1_ R2_ R3_ R4_ R5_ R6_ R7_ R8_ R9_; replace KS := KS.next C; replace KE := KE.next C; replace KR := KR.next C; replace KM := KM.next C; replace B := jq1 B C; replace D := jq1 D C; replace IR := jq7 IR C; replace IM := jq7 IM C; clear C; obtain ⟨S0_, S1_, S2_, S3_, S4_, S5_, S6_, S7_, S8_, S9_⟩ := jq0 KS; obtain ⟨E0_, E1_, E2_, E3_, E4_, E5_, E6_, E7_, E8_⟩ := jqa KE; have HIS2 := HI.out _ D; go_wp2_with fail; refine (iWhoAt q.a2 q.c2 u.ts u.tm _ HIS2.h2 HIS2.n2 HIS2.k2 wft).mono ?_; rintro e u8 ⟨rfl, C⟩; clear E0_ E1_ E2_ E3_ E4_ E5_ E6_ E7_ E8_ S0_ S1_ S2_ S3_ S4_ S5_ S6_ S7_ S8_ S9_; replace KS := KS.next C; replace KE := KE.next C; replace KR := KR.next C; replace KM := KM.next C; replace B := jq1 B C; replace D := jq1 D C; replace IR := jq7 IR C; replace IM := jq7 IM C; replace HIS2 := jq7 HIS2 C; rw [hwho]; clear C; have KR0 := KR; have KS0 := KS; have IR0 := IR; have IS0 := HIS2; have B0 := B; clear KR KS IR HIS2 B KE KM IM D; go_wp2_with fail
      go_loopw [10] (fun i wr => ∃ o : Int, 1 ≤ o ∧ o ≤ 13 ∧ i = .int .i64 o ∧ Below w.heap.size w wr ∧ Blk wr u3.heap.size 30 #[.slice p1.a1 tn2.hs.length p1.c1, .slice p1.a2 tn2.ts.length p1.c2, .slice p1.a3 tn2.ns.length p1.c3, .int .i64 tn2.r, .int .i64 tn2.hd, .slice p1.a4 tn2.ac.length p1.c4, .int .i64 tn2.rt, .int .i64 tn2.tm, .int .i64 tn2.ls, .int .i64 tn2.cm] ∧ Blk wr u1.heap.size 30 #[.slice q.a1 u.hs.length q.c1, .slice q.a2 u.ts.length q.c2, .slice q.a3 u.ns.length q.c3, .int .i64 u.r, .int .i64 u.hd, .slice q.a4 u.ac.length q.c4, .int .i64 u.rt, .int .i64 u.tm, .int .i64 u.ls, .int .i64 u.cm] ∧ IsTw wr p1 tn2 ∧ IsTw wr q u) (fun i _ => (13 - intOf i).toNat)
      case atStart => exact ⟨1, by omega, by omega, rfl, B0, KR0, KS0, IR0, IS0⟩
      case round =>
        clear B0 KR0 KS0 IR0 IS0; obtain ⟨o, o1, o2, rfl, B, KR, KS, IR, HIS2⟩ := hrel
        by_cases ho2 : o ≤ 12
        · have hd := HG.out o
          have e4 : decide (o ≤ 12) = true := decide_eq_true ho2
          have wo : IntKind.i64.wrap (o + 1) = o + 1 := by rw [IntKind.wrap_i64]; omega
          have lR := KR.lt; have lS := KS.lt; have HKR := Lib.hid KR; have HKS := Lib.hid KS; obtain ⟨R0_, R1_, R2_, R3_, R4_, R5_, R6_, R7_, R8_, R9_⟩ := jq0 KR; obtain ⟨S0_, S1_, S2_, S3_, S4_, S5_, S6_, S7_, S8_, S9_⟩ := jq0 KS; have MK := Lib.hid (fun (W : World) (hW : Below wr.heap.size wr W) => (⟨⟨(hW.cell (p := ⟨u3.heap.size, 0, none⟩) lR).trans R0_, (hW.cell (p := ⟨u3.heap.size, 1, none⟩) lR).trans R1_, (hW.cell (p := ⟨u3.heap.size, 2, none⟩) lR).trans R2_, (hW.cell (p := ⟨u3.heap.size, 3, none⟩) lR).trans R3_, (hW.cell (p := ⟨u3.heap.size, 4, none⟩) lR).trans R4_, (hW.cell (p := ⟨u3.heap.size, 5, none⟩) lR).trans R5_, (hW.cell (p := ⟨u3.heap.size, 6, none⟩) lR).trans R6_, (hW.cell (p := ⟨u3.heap.size, 7, none⟩) lR).trans R7_, (hW.cell (p := ⟨u3.heap.size, 8, none⟩) lR).trans R8_, (hW.cell (p := ⟨u3.heap.size, 9, none⟩) lR).trans R9_, (hW.cell (p := ⟨u1.heap.size, 0, none⟩) lS).trans S0_, (hW.cell (p := ⟨u1.heap.size, 1, none⟩) lS).trans S1_, (hW.cell (p := ⟨u1.heap.size, 2, none⟩) lS).trans S2_, (hW.cell (p := ⟨u1.heap.size, 3, none⟩) lS).trans S3_, (hW.cell (p := ⟨u1.heap.size, 4, none⟩) lS).trans S4_, (hW.cell (p := ⟨u1.heap.size, 5, none⟩) lS).trans S5_, (hW.cell (p := ⟨u1.heap.size, 6, none⟩) lS).trans S6_, (hW.cell (p := ⟨u1.heap.size, 7, none⟩) lS).trans S7_, (hW.cell (p := ⟨u1.heap.size, 8, none⟩) lS).trans S8_, (hW.cell (p := ⟨u1.heap.size, 9, none⟩) lS).trans S9_⟩, hW⟩ : (W.cell? ⟨u3.heap.size, 0, none⟩ = some (.slice p1.a1 tn2.hs.length p1.c1) ∧ W.cell? ⟨u3.heap.size, 1, none⟩ = some (.slice p1.a2 tn2.ts.length p1.c2) ∧ W.cell? ⟨u3.heap.size, 2, none⟩ = some (.slice p1.a3 tn2.ns.length p1.c3) ∧ W.cell? ⟨u3.heap.size, 3, none⟩ = some (.int .i64 tn2.r) ∧ W.cell? ⟨u3.heap.size, 4, none⟩ = some (.int .i64 tn2.hd) ∧ W.cell? ⟨u3.heap.size, 5, none⟩ = some (.slice p1.a4 tn2.ac.length p1.c4) ∧ W.cell? ⟨u3.heap.size, 6, none⟩ = some (.int .i64 tn2.rt) ∧ W.cell? ⟨u3.heap.size, 7, none⟩ = some (.int .i64 tn2.tm) ∧ W.cell? ⟨u3.heap.size, 8, none⟩ = some (.int .i64 tn2.ls) ∧ W.cell? ⟨u3.heap.size, 9, none⟩ = some (.int .i64 tn2.cm) ∧ W.cell? ⟨u1.heap.size, 0, none⟩ = some (.slice q.a1 u.hs.length q.c1) ∧ W.cell? ⟨u1.heap.size, 1, none⟩ = some (.slice q.a2 u.ts.length q.c2) ∧ W.cell? ⟨u1.heap.size, 2, none⟩ = some (.slice q.a3 u.ns.length q.c3) ∧ W.cell? ⟨u1.heap.size, 3, none⟩ = some (.int .i64 u.r) ∧ W.cell? ⟨u1.heap.size, 4, none⟩ = some (.int .i64 u.hd) ∧ W.cell? ⟨u1.heap.size, 5, none⟩ = some (.slice q.a4 u.ac.length q.c4) ∧ W.cell? ⟨u1.heap.size, 6, none⟩ = some (.int .i64 u.rt) ∧ W.cell? ⟨u1.heap.size, 7, none⟩ = some (.int .i64 u.tm) ∧ W.cell? ⟨u1.heap.size, 8, none⟩ = some (.int .i64 u.ls) ∧ W.cell? ⟨u1.heap.size, 9, none⟩ = some (.int .i64 u.cm)) ∧ Below wr.heap.size wr W))
          clear R0_ R1_ R2_ R3_ R4_ R5_ R6_ R7_ R8_ R9_ S0_ S1_ S2_ S3_ S4_ S5_ S6_ S7_ S8_ S9_; clear KR KS
          by_cases ho : o = who
          · rw [if_pos ho] at hd
            have e1 : (o != who) = false := by simp [ho]
            have e2 : decide (give < 0) = false := decide_eq_false (by omega); have e3 : decide (u.rt < give) = false := decide_eq_false (by omega)
            have wd : IntKind.i64.wrap (untV tn2.ac o - untV u.ac o) = give := by rw [IntKind.wrap_i64]; omega
            clear hd ho; go_wp2_with fail; refine wp_region_held_drew (S := (fun w' => (w'.cell? ⟨u3.heap.size, 0, none⟩ = some (.slice p1.a1 tn2.hs.length p1.c1) ∧ w'.cell? ⟨u3.heap.size, 1, none⟩ = some (.slice p1.a2 tn2.ts.length p1.c2) ∧ w'.cell? ⟨u3.heap.size, 2, none⟩ = some (.slice p1.a3 tn2.ns.length p1.c3) ∧ w'.cell? ⟨u3.heap.size, 3, none⟩ = some (.int .i64 tn2.r) ∧ w'.cell? ⟨u3.heap.size, 4, none⟩ = some (.int .i64 tn2.hd) ∧ w'.cell? ⟨u3.heap.size, 5, none⟩ = some (.slice p1.a4 tn2.ac.length p1.c4) ∧ w'.cell? ⟨u3.heap.size, 6, none⟩ = some (.int .i64 tn2.rt) ∧ w'.cell? ⟨u3.heap.size, 7, none⟩ = some (.int .i64 tn2.tm) ∧ w'.cell? ⟨u3.heap.size, 8, none⟩ = some (.int .i64 tn2.ls) ∧ w'.cell? ⟨u3.heap.size, 9, none⟩ = some (.int .i64 tn2.cm) ∧ w'.cell? ⟨u1.heap.size, 0, none⟩ = some (.slice q.a1 u.hs.length q.c1) ∧ w'.cell? ⟨u1.heap.size, 1, none⟩ = some (.slice q.a2 u.ts.length q.c2) ∧ w'.cell? ⟨u1.heap.size, 2, none⟩ = some (.slice q.a3 u.ns.length q.c3) ∧ w'.cell? ⟨u1.heap.size, 3, none⟩ = some (.int .i64 u.r) ∧ w'.cell? ⟨u1.heap.size, 4, none⟩ = some (.int .i64 u.hd) ∧ w'.cell? ⟨u1.heap.size, 5, none⟩ = some (.slice q.a4 u.ac.length q.c4) ∧ w'.cell? ⟨u1.heap.size, 6, none⟩ = some (.int .i64 u.rt) ∧ w'.cell? ⟨u1.heap.size, 7, none⟩ = some (.int .i64 u.tm) ∧ w'.cell? ⟨u1.heap.size, 8, none⟩ = some (.int .i64 u.ls) ∧ w'.cell? ⟨u1.heap.size, 9, none⟩ = some (.int .i64 u.cm)) ∧ Below wr.heap.size wr w')) (by kernel_rfl) ?_ (fun hHeld => ?_)
            · exact MK.out _ (Below.refl _ _).drew
            refine tk (i := 0) (v := ?v54) rfl ?c54 ?d_54
            case c54 => (refine .inl ⟨by rfl, ?_⟩; intro w h; (try dsimp only at h); go_simp <;> with_reducible rfl)
            try simp only [pt]
            refine tk (i := 1) (v := ?v55) rfl ?c55 ?d_55
            case c55 => (refine .inl ⟨by rfl, ?_⟩; intro w h; (try dsimp only at h); go_simp <;> with_reducible rfl)
            try simp only [pt]
            refine tk (i := 3) (v := ?v56) rfl ?c56 ?d_56
            case c56 => (refine .inl ⟨by rfl, ?_⟩; intro w h; (try dsimp only at h); go_simp <;> with_reducible rfl)
            try simp only [pt]
            refine tk (i := 4) (v := ?v57) rfl ?c57 ?d_57
            case c57 => (refine .inl ⟨by rfl, ?_⟩; intro w h; (try dsimp only at h); go_simp <;> with_reducible rfl)
            try simp only [pt]
            refine wpAnyH_ready (rs := [2]) (by kernel_rfl) (by simp) (AllReadyH.cons (o := ?oot5) ?hit5 (fun K hK => ?hkt5) AllReadyH.nil)
            rotate_left
            case hit5 => (simp only [List.getElem?_toArray, List.getElem?_cons_succ, List.getElem?_cons_zero]; rfl)
            (rw [if_pos (by rfl)]; go_simp; refine (CR.out o _ (jq7 IR hHeld.2)).mono ?_; rintro e W2 ⟨rfl, hb⟩; have D2 := jq1 hHeld.2 hb; have KK := MK.out _ D2; go_wp2_with fail; refine hK.out _ _ (KK) (fun hHeld => ?_); clear hK K)
            try simp only [pt]
            refine wpAnyH_ready (rs := [5]) (by kernel_rfl) (by simp) (AllReadyH.cons (o := ?oot6) ?hit6 (fun K hK => ?hkt6) AllReadyH.nil)
            rotate_left
            case hit6 => (simp only [List.getElem?_toArray, List.getElem?_cons_succ, List.getElem?_cons_zero]; rfl)
            (rw [if_pos (by rfl)]; go_simp; refine (CT.out o _ (jq7 HIS2 hHeld.2)).mono ?_; rintro e W3 ⟨rfl, hb2⟩; have D3 := jq1 hHeld.2 hb2; have KK := MK.out _ D3; go_wp2_with fail; refine hK.out _ _ (KK) (fun hHeld => ?_); clear hK K)
            try simp only [pt]
            refine tk (i := 6) (v := ?v58) rfl ?c58 ?d_58
            case c58 => (refine .inl ⟨by rfl, ?_⟩; intro w h; (try dsimp only at h); go_simp <;> with_reducible rfl)
            try simp only [pt]
            refine tk (i := 7) (v := ?v59) rfl ?c59 ?d_59
            case c59 => (refine .inl ⟨by rfl, ?_⟩; intro w h; (try dsimp only at h); go_simp <;> with_reducible rfl)
            try simp only [pt]
            refine wpAnyH_done (by kernel_rfl) ?_ _; have HW := Lib.hid hHeld.2; clear KK hHeld hb hb2 D2 D3; have KR2 := HKR.out.next HW.out; have KS2 := HKS.out.next HW.out; have B2 := jq1 B HW.out; have IR2 := jq7 IR HW.out; have IS2 := jq7 HIS2 HW.out; obtain ⟨S0_, S1_, S2_, S3_, S4_, S5_, S6_, S7_, S8_, S9_⟩ := jq0 KS2; go_wp2_with fail
            go_roundw
            case rel => exact ⟨o + 1, by omega, by omega, rfl, B2, KR2, KS2, IR2, IS2⟩
            case measure => simp [intOf]; omega
          · rw [if_neg ho] at hd
            have e1 : (o != who) = true := by simpa using ho
            have e2 : decide ((0 : Int) < 0) = false := rfl; have e3 : decide (u.rt < 0) = false := decide_eq_false (by omega); have e5 : ((0 : Int) != 0) = false := rfl
            have wd : IntKind.i64.wrap (untV tn2.ac o - untV u.ac o) = 0 := by rw [IntKind.wrap_i64]; omega
            clear hd ho; go_wp2_with fail; refine wp_region_held_drew (S := (fun w' => (w'.cell? ⟨u3.heap.size, 0, none⟩ = some (.slice p1.a1 tn2.hs.length p1.c1) ∧ w'.cell? ⟨u3.heap.size, 1, none⟩ = some (.slice p1.a2 tn2.ts.length p1.c2) ∧ w'.cell? ⟨u3.heap.size, 2, none⟩ = some (.slice p1.a3 tn2.ns.length p1.c3) ∧ w'.cell? ⟨u3.heap.size, 3, none⟩ = some (.int .i64 tn2.r) ∧ w'.cell? ⟨u3.heap.size, 4, none⟩ = some (.int .i64 tn2.hd) ∧ w'.cell? ⟨u3.heap.size, 5, none⟩ = some (.slice p1.a4 tn2.ac.length p1.c4) ∧ w'.cell? ⟨u3.heap.size, 6, none⟩ = some (.int .i64 tn2.rt) ∧ w'.cell? ⟨u3.heap.size, 7, none⟩ = some (.int .i64 tn2.tm) ∧ w'.cell? ⟨u3.heap.size, 8, none⟩ = some (.int .i64 tn2.ls) ∧ w'.cell? ⟨u3.heap.size, 9, none⟩ = some (.int .i64 tn2.cm) ∧ w'.cell? ⟨u1.heap.size, 0, none⟩ = some (.slice q.a1 u.hs.length q.c1) ∧ w'.cell? ⟨u1.heap.size, 1, none⟩ = some (.slice q.a2 u.ts.length q.c2) ∧ w'.cell? ⟨u1.heap.size, 2, none⟩ = some (.slice q.a3 u.ns.length q.c3) ∧ w'.cell? ⟨u1.heap.size, 3, none⟩ = some (.int .i64 u.r) ∧ w'.cell? ⟨u1.heap.size, 4, none⟩ = some (.int .i64 u.hd) ∧ w'.cell? ⟨u1.heap.size, 5, none⟩ = some (.slice q.a4 u.ac.length q.c4) ∧ w'.cell? ⟨u1.heap.size, 6, none⟩ = some (.int .i64 u.rt) ∧ w'.cell? ⟨u1.heap.size, 7, none⟩ = some (.int .i64 u.tm) ∧ w'.cell? ⟨u1.heap.size, 8, none⟩ = some (.int .i64 u.ls) ∧ w'.cell? ⟨u1.heap.size, 9, none⟩ = some (.int .i64 u.cm)) ∧ Below wr.heap.size wr w')) (by kernel_rfl) ?_ (fun hHeld => ?_)
            · exact MK.out _ (Below.refl _ _).drew
            refine tk (i := 0) (v := ?v5a) rfl ?c5a ?d_5a
            case c5a => (refine .inl ⟨by rfl, ?_⟩; intro w h; (try dsimp only at h); go_simp <;> with_reducible rfl)
            try simp only [pt]
            refine tk (i := 1) (v := ?v5b) rfl ?c5b ?d_5b
            case c5b => (refine .inl ⟨by rfl, ?_⟩; intro w h; (try dsimp only at h); go_simp <;> with_reducible rfl)
            try simp only [pt]
            refine tk (i := 3) (v := ?v5c) rfl ?c5c ?d_5c
            case c5c => (refine .inl ⟨by rfl, ?_⟩; intro w h; (try dsimp only at h); go_simp <;> with_reducible rfl)
            try simp only [pt]
            refine tk (i := 4) (v := ?v5d) rfl ?c5d ?d_5d
            case c5d => (refine .inl ⟨by rfl, ?_⟩; intro w h; (try dsimp only at h); go_simp <;> with_reducible rfl)
            try simp only [pt]
            refine wpAnyH_ready (rs := [2]) (by kernel_rfl) (by simp) (AllReadyH.cons (o := ?oot14) ?hit14 (fun K hK => ?hkt14) AllReadyH.nil)
            rotate_left
            case hit14 => (simp only [List.getElem?_toArray, List.getElem?_cons_succ, List.getElem?_cons_zero]; rfl)
            (rw [if_pos (by rfl)]; go_simp; refine (CR.out o _ (jq7 IR hHeld.2)).mono ?_; rintro e W2 ⟨rfl, hb⟩; have D2 := jq1 hHeld.2 hb; have KK := MK.out _ D2; go_wp2_with fail; refine hK.out _ _ (KK) (fun hHeld => ?_); clear hK K)
            try simp only [pt]
            refine wpAnyH_ready (rs := [5]) (by kernel_rfl) (by simp) (AllReadyH.cons (o := ?oot15) ?hit15 (fun K hK => ?hkt15) AllReadyH.nil)
            rotate_left
            case hit15 => (simp only [List.getElem?_toArray, List.getElem?_cons_succ, List.getElem?_cons_zero]; rfl)
            (rw [if_pos (by rfl)]; go_simp; refine (CT.out o _ (jq7 HIS2 hHeld.2)).mono ?_; rintro e W3 ⟨rfl, hb2⟩; have D3 := jq1 hHeld.2 hb2; have KK := MK.out _ D3; go_wp2_with fail; refine hK.out _ _ (KK) (fun hHeld => ?_); clear hK K)
            try simp only [pt]
            refine tk (i := 6) (v := ?v5e) rfl ?c5e ?d_5e
            case c5e => (refine .inl ⟨by rfl, ?_⟩; intro w h; (try dsimp only at h); go_simp <;> with_reducible rfl)
            try simp only [pt]
            refine tk (i := 7) (v := ?v5f) rfl ?c5f ?d_5f
            case c5f => (refine .inl ⟨by rfl, ?_⟩; intro w h; (try dsimp only at h); go_simp <;> with_reducible rfl)
            try simp only [pt]
            refine wpAnyH_done (by kernel_rfl) ?_ _; have HW := Lib.hid hHeld.2; clear KK hHeld hb hb2 D2 D3; have KR2 := HKR.out.next HW.out; have KS2 := HKS.out.next HW.out; have B2 := jq1 B HW.out; have IR2 := jq7 IR HW.out; have IS2 := jq7 HIS2 HW.out; obtain ⟨S0_, S1_, S2_, S3_, S4_, S5_, S6_, S7_, S8_, S9_⟩ := jq0 KS2; go_wp2_with fail
            go_roundw
            case rel => exact ⟨o + 1, by omega, by omega, rfl, B2, KR2, KS2, IR2, IS2⟩
            case measure => simp [intOf]; omega
        · have e4 : decide (o ≤ 12) = false := decide_eq_false ho2
          clear KR KS IR HIS2; go_wp2_with fail; go_ret; exact ⟨rfl, B⟩
    · have e0 : (x.k != 5) = true := by simpa using k5
      have hsm : tn2.r = u.r ∧ tn2.hd = u.hd ∧ tn2.ac = u.ac ∧ tn2.ls = u.ls := by
        rcases hsh with h | h
        · exact ⟨h.2.1, h.2.2.1, h.2.2.2.1, h.2.2.2.2.2.2.1⟩
        · exact absurd h.1 k5
      clear hsh k5 hv ha hv2; replace hsm := Lib.hid hsm
      go_wp2_with (first | (show wpList _ _ _ ({ dst := some _, op := _, type := _, pos := _, after := _, guard := _ } :: _) _ (World.alloc _ _); rw [← HU6.out]))
      refine (eqTw p1 p2 tn2 _ IR IM).mono ?_; rintro e u7 ⟨rfl, C⟩; clear M0_ M1_ M2_ M3_ M4_ M5_ M6_ M7_ M8_ M9_ R0_ R1_ R2_ R3_ R4_ R5_ R6_ R7_ R8_ R9_; replace KS := KS.next C; replace KE := KE.next C; replace KR := KR.next C; replace KM := KM.next C; replace B := jq1 B C; replace D := jq1 D C; replace IR := jq7 IR C; replace IM := jq7 IM C; clear C; replace hsm := hsm.out; obtain ⟨R0_, R1_, R2_, R3_, R4_, R5_, R6_, R7_, R8_, R9_⟩ := jq0 KR; obtain ⟨S0_, S1_, S2_, S3_, S4_, S5_, S6_, S7_, S8_, S9_⟩ := jq0 KS; obtain ⟨E0_, E1_, E2_, E3_, E4_, E5_, E6_, E7_, E8_⟩ := jqa KE; have HIS2 := Lib.hid (HI.out _ D); have HAC := Lib.hid hsm.2.2.1; clear hsm; have hac2 : u.ac = tn2.ac := HAC.out.symm; rw [hac2] at S5_; clear hac2; go_wp2_with fail; refine (eqAc p1.a4 q.a4 p1.c4 q.c4 tn2.ac _ IR.h4 (by rw [HAC.out]; exact HIS2.out.h4) IR.n4).mono ?_; rintro e u8 ⟨rfl, C⟩; clear E0_ E1_ E2_ E3_ E4_ E5_ E6_ E7_ E8_ R0_ R1_ R2_ R3_ R4_ R5_ R6_ R7_ R8_ R9_ S0_ S1_ S2_ S3_ S4_ S5_ S6_ S7_ S8_ S9_; replace KS := KS.next C; replace KE := KE.next C; replace KR := KR.next C; replace KM := KM.next C; replace B := jq1 B C; replace D := jq1 D C; replace IR := jq7 IR C; replace IM := jq7 IM C; replace HIS2 := Lib.hid (jq7 HIS2.out C); clear C; go_wp2_with fail; go_ret; exact ⟨rfl, B⟩

theorem lifted (os : Os) (started : os.Started) (H : Type) (enc : TypeId × Value → H) :
  ReturnsInHanded {} Tryz.checked os 4 .any (Rows.fnApplyEventHourSpec.pre6 enc Tryz.prog Tryz.f4 Rows.fnApplyEventHourRow.domain false) (Rows.fnApplyEventHourSpec.post enc Tryz.prog Tryz.f4 false true false false) := by
 refine returnsInHanded_of_change (C := Tryz.checked) own started (by kernel_rfl) Tryz.func4
  (ChangeSpec.witness6 (enc := enc) (C := Tryz.checked) false ⟨#[], #[.slice none 0 0], []⟩ 8 (by kernel_rfl) (by kernel_rfl) (by kernel_rfl) (by kernel_rfl)) ?_
 intro W base args ds gs before hval0 hW hcnd _; have hval : ∀ (j : Nat) t v, Tryz.f4.params[j]? = some t → args[j]? = some v → Value.okWide Tryz.prog W .any base t v := hval0; have hW' := hW; obtain ⟨p, q, hA0, hV, rfl, hfz, hnd⟩ := hW; have hA : DataW.TrodAll enc Tryz.prog W 0 (fun _ => true) true Tryz.f4.params.toList args.toList ds p := hA0; rw [Tryz.params4] at hA hval; obtain ⟨v0, vs0, e0, es0, p0, q0, hargs, rfl, rfl, h0, r0⟩ := trodAll_cons hA; obtain ⟨rfl, rfl, rfl⟩ := trodAll_nil r0
 obtain rfl : args = #[v0] := by cases args; simp_all
 obtain ⟨rfl, rfl⟩ := trodVars_none hV; have k0 := h0
 have lt0 : ∀ x ∈ p0, x.block < W.heap.size := by obtain ⟨m, hm⟩ := k0; exact DataW.trod_lt m _ _ _ hm
 obtain ⟨a0, len0, cap0, rfl⟩ := okWide_slice Tryz.underlying22 (hval 0 22 v0 rfl rfl)
 obtain ⟨z0, w0⟩ : ∃ zs, IsRow .u8 W a0 len0 cap0 zs := by
  obtain ⟨fuel, hf⟩ := h0
  rcases open_ints Tryz.underlying22 Tryz.underlying5 (by kernel_rfl) hf with ⟨hcs, _⟩ | ⟨x, l, c, zs, hcs, _, hl, hm, hz, _, hcell, hwz⟩
  ·simp [Value.cells] at hcs
   obtain ⟨rfl, rfl, rfl⟩ := hcs; exact ⟨[], .inl ⟨rfl, rfl, rfl, rfl⟩⟩
  ·simp [Value.cells] at hcs
   obtain ⟨rfl, rfl, rfl⟩ := hcs; exact ⟨zs, .inr ⟨_, rfl, hl, hm, by simpa using hz, hcell, hwz⟩⟩
 clear hA0 hval0
 refine (walk a0 len0 cap0 z0 W w0).mono fun e W' ⟨he, bel⟩ => ?_
 subst he; exact ⟨_, rfl, _, _, _, [], _, [], hW', trodAll_mk1 (shut_bool Tryz.underlying4 _), (trodAll_cons_mk (Below.trod laidOut (by kernel_rfl) (of_decide_eq_true (by kernel_rfl)) k0 bel lt0) trodAll_mk0), rfl, bel.frame _, fun h => by cases h⟩

theorem over : Rows.fnApplyEventHourRow.holds Tryz.pinned (OpenSpec.ofChange Rows.fnApplyEventHourSpec) :=
 OpenClaim.holds_of_wide 4 Tryz.f4 rfl rfl rfl rfl rfl rfl rfl ⟨rfl, rfl, rfl, rfl, rfl⟩ rfl rfl rfl rfl rfl (by kernel_rfl) Tryz.func4 (by kernel_rfl)
  (of_decide_eq_true (by kernel_rfl)) (by unfold Func.isWrapper; first | (rw [if_pos (by decide +kernel)]; kernel_rfl) | (rw [if_neg (by decide +kernel)]; exact ⟨rfl, rfl⟩))
  (fun os started H enc _ => lifted os started H enc)

end Go.Proofs.YtaehemmjemhgpabGreat.fnApplyEventHour
namespace Go.Proofs.YtaehemmjemhgpabGreat
theorem fnApplyEventHour_holds : Rows.FnApplyEventHourSaid := fnApplyEventHour.over
end Go.Proofs.YtaehemmjemhgpabGreat
