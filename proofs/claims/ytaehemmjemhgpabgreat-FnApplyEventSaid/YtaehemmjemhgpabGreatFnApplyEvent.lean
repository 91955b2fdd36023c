/- For every input the law answers true, and its argument reads afterwards as before: events keep the balance. No condition. -/
import Derived.Test.YtaehemmjemhgpabGreatRows
import Derived.Test.YtaehemmjemhgpabGreatZADrawTe
import Derived.Test.YtaehemmjemhgpabGreatZAApI
import Derived.Test.YtaehemmjemhgpabGreatZAG9
import Derived.Test.YtaehemmjemhgpabGreatZAG3
import Derived.Test.YtaehemmjemhgpabGreatZAG7
import Derived.WalkKit
import Derived.ProofKit
import Derived.OpenShut
import Derived.ShutString
import Derived.ChangeOld
import Derived.Below
import Derived.Lib.SmallJoins
set_option maxRecDepth 100000
set_option maxHeartbeats 16000000
namespace Go.Proofs.YtaehemmjemhgpabGreat.fnApplyEvent
open Go.ChangeShapes Go.WideShapes Go.ChangeAt Go.RowKit Go.Joins
open Go.ChangeMaps (open_string shut_string)
set_option linter.unusedVariables false
set_option linter.unusedSimpArgs false

theorem own : ownKnob Tryz.prog.godebug = none := by kernel_rfl
theorem laidOut : laidOutB Tryz.prog = true := by kernel_rfl
theorem aev_is {t : Tw} {x : Ev} (h : aevB t x = true) : twB t = true ∧ apT t x = some (aevU t x) := by
 unfold aevB at h; rw [Bool.and_eq_true] at h; obtain ⟨h1, h2⟩ := h; refine ⟨h1, ?_⟩; rw [(aev_yes h1).2]; unfold apB at h2; unfold apU; obtain ⟨u, hu⟩ := Option.isSome_iff_exists.1 h2; rw [hu]; rfl
theorem tm_ok {t : Tw} (h : twB t = true) : inB3 t.tm 0 5000 = true := by
 unfold twB at h; simp only [Bool.and_eq_true] at h; exact h.2.2.2.2.2.2.1

theorem walk (a0 : Option Addr) (len0 cap0 : Nat) (z0 : List Int) (w : World) (w0 : IsRow .u8 w a0 len0 cap0 z0) :
    Calls Tryz.prog 3 #[.slice a0 len0 cap0] w fun e w' => e = .returned (.bool true) ∧ Below w.heap.size w w' := by
  by_cases big : (1048576 : Int) < (len0 : Int)
  · go_enter Tryz.func3, Tryz.ntmps3
    go_wp2
    go_ret; exact ⟨rfl, Below.refl _ _⟩
  go_enter Tryz.func3, Tryz.ntmps3; go_wp2_with fail; refine (drawAE a0 len0 cap0 z0 _ w0).mono ?_; rintro e u1 ⟨q, u, A, cz, x, rfl, hI, z4, zc, hZ, zab, B⟩; clear w0 big zab; have HI := Lib.hid (fun W (hW : Below u1.heap.size u1 W) => jq7 hI hW); have CI := Lib.hid (fun W (hW : Below u1.heap.size u1 W) => (iApply q.a1 q.a2 q.a3 q.a4 q.c1 q.c2 q.c3 q.c4 u.hs u.ts u.ns u.r u.hd u.ac u.rt u.tm u.ls u.cm x.k x.dd.k x.dd.o x.dd.t x.dd.n x.dd.d A x.dd.zs cz x.at_ x.nu W (jq7 hI hW) (jqf hZ hW) (by omega) zc : Calls Tryz.prog 11 #[.agg #[.slice q.a1 u.hs.length q.c1, .slice q.a2 u.ts.length q.c2, .slice q.a3 u.ns.length q.c3, .int .i64 u.r, .int .i64 u.hd, .slice q.a4 u.ac.length q.c4, .int .i64 u.rt, .int .i64 u.tm, .int .i64 u.ls, .int .i64 u.cm], .agg #[.int .i64 x.k, .int .i64 x.dd.k, .int .i64 x.dd.o, .int .i64 x.dd.t, .int .i64 x.dd.n, .int .i64 x.dd.d, .slice A x.dd.zs.length cz, .int .i64 x.at_, .int .i64 x.nu]] W (OutTB W (aevB u x) (aevU u x)))); have CS := Lib.hid (fun W (hW : Below u1.heap.size u1 W) => (sApply q.a1 q.a2 q.a3 q.a4 q.c1 q.c2 q.c3 q.c4 u.hs u.ts u.ns u.r u.hd u.ac u.rt u.tm u.ls u.cm x.k x.dd.k x.dd.o x.dd.t x.dd.n x.dd.d A x.dd.zs cz x.at_ x.nu W (jq7 hI hW) (jqf hZ hW) (by omega) zc : Calls Tryz.prog 12 #[.agg #[.slice q.a1 u.hs.length q.c1, .slice q.a2 u.ts.length q.c2, .slice q.a3 u.ns.length q.c3, .int .i64 u.r, .int .i64 u.hd, .slice q.a4 u.ac.length q.c4, .int .i64 u.rt, .int .i64 u.tm, .int .i64 u.ls, .int .i64 u.cm], .agg #[.int .i64 x.k, .int .i64 x.dd.k, .int .i64 x.dd.o, .int .i64 x.dd.t, .int .i64 x.dd.n, .int .i64 x.dd.d, .slice A x.dd.zs.length cz, .int .i64 x.at_, .int .i64 x.nu]] W (OutTB W (aevB u x) (aevU u x))))
  have HIS := Lib.hid (@aev_is u x)
  have HNO : Hid (aevB u x = false → aevU u x = Tw.zero) := fun h => by
    cases hv : twB u with
    | false => exact (aev_no hv).2
    | true =>
      rw [(aev_yes hv).1] at h; rw [(aev_yes hv).2]; unfold apB at h; unfold apU
      cases ha : apT u x with
      | none => rfl
      | some v => rw [ha] at h; cases h
  have HZ0 := Lib.hid hZ
  have HZ4 : Hid (x.dd.zs.length ≤ 4 ∧ x.dd.zs.length ≤ cz) := ⟨z4, zc⟩
  clear hI hZ z4 zc
  obtain ⟨b, hb⟩ : ∃ b, aevB u x = b := ⟨_, rfl⟩
  obtain ⟨u2, hu2⟩ : ∃ v, aevU u x = v := ⟨_, rfl⟩
  rw [hb, hu2] at CI CS HNO HIS; clear hb hu2
  have DA : Below u1.heap.size u1 ((u1.alloc (.cells #[.slice none 0 0, .slice none 0 0, .slice none 0 0, .int .i64 0, .int .i64 0, .slice none 0 0, .int .i64 0, .int .i64 0, .int .i64 0, .int .i64 0] 30)).alloc (.cells #[.int .i64 0, .int .i64 0, .int .i64 0, .int .i64 0, .int .i64 0, .int .i64 0, .slice none 0 0, .int .i64 0, .int .i64 0] 37)) := by go_grown
  have HKA : Hid (Blk ((u1.alloc (.cells #[.slice none 0 0, .slice none 0 0, .slice none 0 0, .int .i64 0, .int .i64 0, .slice none 0 0, .int .i64 0, .int .i64 0, .int .i64 0, .int .i64 0] 30)).alloc (.cells #[.int .i64 0, .int .i64 0, .int .i64 0, .int .i64 0, .int .i64 0, .int .i64 0, .slice none 0 0, .int .i64 0, .int .i64 0] 37)) u1.heap.size 30 #[.slice none 0 0, .slice none 0 0, .slice none 0 0, .int .i64 0, .int .i64 0, .slice none 0 0, .int .i64 0, .int .i64 0, .int .i64 0, .int .i64 0]) := (Blk.new _ _ _).alloc _
  have HKB : Hid (Blk ((u1.alloc (.cells #[.slice none 0 0, .slice none 0 0, .slice none 0 0, .int .i64 0, .int .i64 0, .slice none 0 0, .int .i64 0, .int .i64 0, .int .i64 0, .int .i64 0] 30)).alloc (.cells #[.int .i64 0, .int .i64 0, .int .i64 0, .int .i64 0, .int .i64 0, .int .i64 0, .slice none 0 0, .int .i64 0, .int .i64 0] 37)) (u1.heap.size + 1) 37 #[.int .i64 0, .int .i64 0, .int .i64 0, .int .i64 0, .int .i64 0, .int .i64 0, .slice none 0 0, .int .i64 0, .int .i64 0]) := by
    have := Blk.new (u1.alloc (.cells #[.slice none 0 0, .slice none 0 0, .slice none 0 0, .int .i64 0, .int .i64 0, .slice none 0 0, .int .i64 0, .int .i64 0, .int .i64 0, .int .i64 0] 30)) 37 #[.int .i64 0, .int .i64 0, .int .i64 0, .int .i64 0, .int .i64 0, .int .i64 0, .slice none 0 0, .int .i64 0, .int .i64 0]; rw [World.size_alloc] at this; exact this
  obtain ⟨y1, hy1⟩ : ∃ Y_, Y_ = jq9 ((u1.alloc (.cells #[.slice none 0 0, .slice none 0 0, .slice none 0 0, .int .i64 0, .int .i64 0, .slice none 0 0, .int .i64 0, .int .i64 0, .int .i64 0, .int .i64 0] 30)).alloc (.cells #[.int .i64 0, .int .i64 0, .int .i64 0, .int .i64 0, .int .i64 0, .int .i64 0, .slice none 0 0, .int .i64 0, .int .i64 0] 37)) u1.heap.size (.slice q.a1 u.hs.length q.c1) (.slice q.a2 u.ts.length q.c2) (.slice q.a3 u.ns.length q.c3) (.int .i64 u.r) (.int .i64 u.hd) (.slice q.a4 u.ac.length q.c4) (.int .i64 u.rt) (.int .i64 u.tm) (.int .i64 u.ls) (.int .i64 u.cm) := ⟨_, rfl⟩
  have D1 : Below u1.heap.size u1 y1 := by rw [hy1]; exact DA.trans (jxh (Nat.le_refl _) _ _ _ _ _ _ _ _ _ _)
  have KS1 : Blk y1 u1.heap.size 30 #[.slice q.a1 u.hs.length q.c1, .slice q.a2 u.ts.length q.c2, .slice q.a3 u.ns.length q.c3, .int .i64 u.r, .int .i64 u.hd, .slice q.a4 u.ac.length q.c4, .int .i64 u.rt, .int .i64 u.tm, .int .i64 u.ls, .int .i64 u.cm] := by
    have := jze (v0 := .slice q.a1 u.hs.length q.c1) (v1 := .slice q.a2 u.ts.length q.c2) (v2 := .slice q.a3 u.ns.length q.c3) (v3 := .int .i64 u.r) (v4 := .int .i64 u.hd) (v5 := .slice q.a4 u.ac.length q.c4) (v6 := .int .i64 u.rt) (v7 := .int .i64 u.tm) (v8 := .int .i64 u.ls) (v9 := .int .i64 u.cm) HKA.out; rw [← hy1] at this; exact this
  have HKB1 : Hid (Blk y1 (u1.heap.size + 1) 37 #[.int .i64 0, .int .i64 0, .int .i64 0, .int .i64 0, .int .i64 0, .int .i64 0, .slice none 0 0, .int .i64 0, .int .i64 0]) := X10f HKB.out hy1 (by omega)
  obtain ⟨y2, hy2⟩ : ∃ Y_, Y_ = sets9 y1 (u1.heap.size + 1) (.int .i64 x.k) (.int .i64 x.dd.k) (.int .i64 x.dd.o) (.int .i64 x.dd.t) (.int .i64 x.dd.n) (.int .i64 x.dd.d) (.slice A x.dd.zs.length cz) (.int .i64 x.at_) (.int .i64 x.nu) := ⟨_, rfl⟩
  have D : Below u1.heap.size u1 y2 := by rw [hy2]; exact D1.trans (jj0 (Nat.le_succ _) _ _ _ _ _ _ _ _ _)
  have KS : Blk y2 u1.heap.size 30 #[.slice q.a1 u.hs.length q.c1, .slice q.a2 u.ts.length q.c2, .slice q.a3 u.ns.length q.c3, .int .i64 u.r, .int .i64 u.hd, .slice q.a4 u.ac.length q.c4, .int .i64 u.rt, .int .i64 u.tm, .int .i64 u.ls, .int .i64 u.cm] := KS1.sets9f hy2 (by omega)
  have KE : Blk y2 (u1.heap.size + 1) 37 #[.int .i64 x.k, .int .i64 x.dd.k, .int .i64 x.dd.o, .int .i64 x.dd.t, .int .i64 x.dd.n, .int .i64 x.dd.d, .slice A x.dd.zs.length cz, .int .i64 x.at_, .int .i64 x.nu] := by
    have := jxg (v0 := .int .i64 x.k) (v1 := .int .i64 x.dd.k) (v2 := .int .i64 x.dd.o) (v3 := .int .i64 x.dd.t) (v4 := .int .i64 x.dd.n) (v5 := .int .i64 x.dd.d) (v6 := .slice A x.dd.zs.length cz) (v7 := .int .i64 x.at_) (v8 := .int .i64 x.nu) HKB1.out; rw [← hy2] at this; exact this
  replace B := B.trans (D.mono B.size); have HY1 := Lib.hid hy1; have HY2 := Lib.hid hy2; clear hy1 hy2 KS1 D1 DA; obtain ⟨S0_, S1_, S2_, S3_, S4_, S5_, S6_, S7_, S8_, S9_⟩ := jq0 KS; obtain ⟨E0_, E1_, E2_, E3_, E4_, E5_, E6_, E7_, E8_⟩ := jqa KE
  go_wp2_with (first | (show wpList _ _ _ ({ dst := _, op := Op.store _ _ _, type := _, pos := _, after := _, guard := _ } :: _) _ _; refine jzc rfl _ _ _ rfl u1.heap.size (.slice q.a1 u.hs.length q.c1) (.slice q.a2 u.ts.length q.c2) (.slice q.a3 u.ns.length q.c3) (.int .i64 u.r) (.int .i64 u.hd) (.slice q.a4 u.ac.length q.c4) (.int .i64 u.rt) (.int .i64 u.tm) (.int .i64 u.ls) (.int .i64 u.cm) rfl rfl HKA.out (by kernel_rfl) rfl ?_; rw [← HY1.out]) | (show wpList _ _ _ ({ dst := _, op := Op.store _ _ _, type := _, pos := _, after := _, guard := _ } :: _) _ _; refine jxj rfl _ _ _ rfl (u1.heap.size + 1) (.int .i64 x.k) (.int .i64 x.dd.k) (.int .i64 x.dd.o) (.int .i64 x.dd.t) (.int .i64 x.dd.n) (.int .i64 x.dd.d) (.slice A x.dd.zs.length cz) (.int .i64 x.at_) (.int .i64 x.nu) rfl rfl HKB1.out (by kernel_rfl) rfl ?_; rw [← HY2.out]))
  clear HKA HKB HKB1 HY1 HY2; refine (CI.out _ D).mono ?_; rintro e u3 ⟨p1, he, OR, C⟩; change e = .returned (.tuple #[.agg #[.slice p1.a1 u2.hs.length p1.c1, .slice p1.a2 u2.ts.length p1.c2, .slice p1.a3 u2.ns.length p1.c3, .int .i64 u2.r, .int .i64 u2.hd, .slice p1.a4 u2.ac.length p1.c4, .int .i64 u2.rt, .int .i64 u2.tm, .int .i64 u2.ls, .int .i64 u2.cm], .bool b]) at he; subst he; clear E0_ E1_ E2_ E3_ E4_ E5_ E6_ E7_ E8_ S0_ S1_ S2_ S3_ S4_ S5_ S6_ S7_ S8_ S9_; replace KS := KS.next C; replace KE := KE.next C; replace B := jq1 B C; replace D := jq1 D C; have IR := OR.is; clear C OR CI
  obtain ⟨U4, hU4⟩ : ∃ y, y = u3.alloc (.cells #[.slice p1.a1 u2.hs.length p1.c1, .slice p1.a2 u2.ts.length p1.c2, .slice p1.a3 u2.ns.length p1.c3, .int .i64 u2.r, .int .i64 u2.hd, .slice p1.a4 u2.ac.length p1.c4, .int .i64 u2.rt, .int .i64 u2.tm, .int .i64 u2.ls, .int .i64 u2.cm] 30) := ⟨_, rfl⟩
  have D4 : Below u3.heap.size u3 U4 := by subst hU4; exact (Below.refl _ _).alloc (Nat.le_refl _) _
  have KR : Blk U4 u3.heap.size 30 #[.slice p1.a1 u2.hs.length p1.c1, .slice p1.a2 u2.ts.length p1.c2, .slice p1.a3 u2.ns.length p1.c3, .int .i64 u2.r, .int .i64 u2.hd, .slice p1.a4 u2.ac.length p1.c4, .int .i64 u2.rt, .int .i64 u2.tm, .int .i64 u2.ls, .int .i64 u2.cm] := by subst hU4; exact Blk.new _ _ _
  replace KS := KS.next D4; replace KE := KE.next D4; replace B := jq1 B D4; replace D := jq1 D D4; replace IR := jq7 IR D4; have HU4 := Lib.hid hU4; clear hU4 D4; obtain ⟨S0_, S1_, S2_, S3_, S4_, S5_, S6_, S7_, S8_, S9_⟩ := jq0 KS; obtain ⟨E0_, E1_, E2_, E3_, E4_, E5_, E6_, E7_, E8_⟩ := jqa KE
  go_wp2_with (first | (show wpList _ _ _ ({ dst := some _, op := _, type := _, pos := _, after := _, guard := _ } :: _) _ (World.alloc _ _); rw [← HU4.out]))
  refine (CS.out _ D).mono ?_; rintro e u5 ⟨p2, he, OM, C⟩; change e = .returned (.tuple #[.agg #[.slice p2.a1 u2.hs.length p2.c1, .slice p2.a2 u2.ts.length p2.c2, .slice p2.a3 u2.ns.length p2.c3, .int .i64 u2.r, .int .i64 u2.hd, .slice p2.a4 u2.ac.length p2.c4, .int .i64 u2.rt, .int .i64 u2.tm, .int .i64 u2.ls, .int .i64 u2.cm], .bool b]) at he; subst he; clear E0_ E1_ E2_ E3_ E4_ E5_ E6_ E7_ E8_ S0_ S1_ S2_ S3_ S4_ S5_ S6_ S7_ S8_ S9_; replace KS := KS.next C; replace KE := KE.next C; replace KR := KR.next C; replace B := jq1 B C; replace D := jq1 D C; replace IR := jq7 IR C; have IM := OM.is; clear C OM CS HU4
  obtain ⟨U6, hU6⟩ : ∃ y, y = u5.alloc (.cells #[.slice p2.a1 u2.hs.length p2.c1, .slice p2.a2 u2.ts.length p2.c2, .slice p2.a3 u2.ns.length p2.c3, .int .i64 u2.r, .int .i64 u2.hd, .slice p2.a4 u2.ac.length p2.c4, .int .i64 u2.rt, .int .i64 u2.tm, .int .i64 u2.ls, .int .i64 u2.cm] 30) := ⟨_, rfl⟩
  have D4 : Below u5.heap.size u5 U6 := by subst hU6; exact (Below.refl _ _).alloc (Nat.le_refl _) _
  have KM : Blk U6 u5.heap.size 30 #[.slice p2.a1 u2.hs.length p2.c1, .slice p2.a2 u2.ts.length p2.c2, .slice p2.a3 u2.ns.length p2.c3, .int .i64 u2.r, .int .i64 u2.hd, .slice p2.a4 u2.ac.length p2.c4, .int .i64 u2.rt, .int .i64 u2.tm, .int .i64 u2.ls, .int .i64 u2.cm] := by subst hU6; exact Blk.new _ _ _
  replace KS := KS.next D4; replace KE := KE.next D4; replace KR := KR.next D4; replace B := jq1 B D4; replace D := jq1 D D4; replace IR := jq7 IR D4; replace IM := jq7 IM D4; have HU6 := Lib.hid hU6; clear hU6 D4; obtain ⟨R0_, R1_, R2_, R3_, R4_, R5_, R6_, R7_, R8_, R9_⟩ := jq0 KR; obtain ⟨M0_, M1_, M2_, M3_, M4_, M5_, M6_, M7_, M8_, M9_⟩ := jq0 KM
  cases b with
  | false =>
    go_wp2_with (first | (show wpList _ _ _ ({ dst := some _, op := _, type := _, pos := _, after := _, guard := _ } :: _) _ (World.alloc _ _); rw [← HU6.out]))
    refine (eqTw p1 p2 u2 _ IR IM).mono ?_; rintro e u7 ⟨rfl, C⟩; clear M0_ M1_ M2_ M3_ M4_ M5_ M6_ M7_ M8_ M9_ R0_ R1_ R2_ R3_ R4_ R5_ R6_ R7_ R8_ R9_; replace KS := KS.next C; replace KE := KE.next C; replace KR := KR.next C; replace KM := KM.next C; replace B := jq1 B C; replace D := jq1 D C; replace IR := jq7 IR C; replace IM := jq7 IM C; clear C; obtain ⟨R0_, R1_, R2_, R3_, R4_, R5_, R6_, R7_, R8_, R9_⟩ := jq0 KR; obtain ⟨M0_, M1_, M2_, M3_, M4_, M5_, M6_, M7_, M8_, M9_⟩ := jq0 KM; go_wp2_with fail; refine (eqTw p1 p2 u2 _ IR IM).mono ?_; rintro e u8 ⟨rfl, C⟩; clear M0_ M1_ M2_ M3_ M4_ M5_ M6_ M7_ M8_ M9_ R0_ R1_ R2_ R3_ R4_ R5_ R6_ R7_ R8_ R9_; replace KS := KS.next C; replace KE := KE.next C; replace KR := KR.next C; replace KM := KM.next C; replace B := jq1 B C; replace D := jq1 D C; replace IR := jq7 IR C; replace IM := jq7 IM C; clear C; go_wp2_with fail; go_ret; exact ⟨rfl, B⟩
  | true =>
    obtain ⟨hv, ha⟩ := HIS.out rfl; obtain ⟨a1, a2, a3⟩ := ap_adds hv ha; have hv2 := (ap_is ha).2; have hsh := ap_shape ha; obtain ⟨⟨d0, d1⟩, ⟨l0, l1⟩, ⟨m0, m1⟩⟩ := tw_nums hv; obtain ⟨_, ⟨l2, l3⟩, _⟩ := tw_nums hv2
    have tm0 := (jzd (tm_ok hv))
    have e3 : decide (u.ls ≤ u2.ls) = true := decide_eq_true a3; clear hv ha d0 d1 l0 l1 l2 l3 a3 HIS HNO
    by_cases k5 : x.k = 5
    · have hn : 0 ≤ x.nu ∧ x.nu ≤ 500 := by
        rcases hsh with h | h
        · exact absurd k5 h.1
        · exact ⟨h.2.1, h.2.2.1⟩
      have e0 : (x.k == 5) = true := by simp [k5]
      unfold numE at a1; rw [if_pos k5] at a1 a2
      have w1 : IntKind.i64.wrap (u.cm + x.nu) = u.cm + x.nu := by rw [IntKind.wrap_i64]; omega
      have w2 : IntKind.i64.wrap (u.tm + 1) = u.tm + 1 := by rw [IntKind.wrap_i64]; omega
      have e1 : (u2.cm == u.cm + x.nu) = true := by simp [a1]
      have e2 : (u2.tm == u.tm + 1) = true := by simp [a2]
      clear hsh k5 hn a1 a2 m0 m1 tm0
      go_wp2_with (first | (show wpList _ _ _ ({ dst := some _, op := _, type := _, pos := _, after := _, guard := _ } :: _) _ (World.alloc _ _); rw [← HU6.out]))
      refine (eqTw p1 p2 u2 _ IR IM).mono ?_; rintro e u7 ⟨rfl, C⟩; clear M0_ M1_ M2_ M3_ M4_ M5_ M6_ M7_ M8_ M9_ R0_ R1_ R2_ R3_ R4_ R5_ R6_ R7_ R8_ R9_; replace KS := KS.next C; replace KE := KE.next C; replace KR := KR.next C; replace KM := KM.next C; replace B := jq1 B C; replace D := jq1 D C; replace IR := jq7 IR C; replace IM := jq7 IM C; clear C; obtain ⟨R0_, R1_, R2_, R3_, R4_, R5_, R6_, R7_, R8_, R9_⟩ := jq0 KR; obtain ⟨S0_, S1_, S2_, S3_, S4_, S5_, S6_, S7_, S8_, S9_⟩ := jq0 KS; obtain ⟨E0_, E1_, E2_, E3_, E4_, E5_, E6_, E7_, E8_⟩ := jqa KE; go_wp2_with fail; refine (iVTw p1 u2 _ IR).mono ?_; rintro e u8 ⟨rfl, C⟩; clear E0_ E1_ E2_ E3_ E4_ E5_ E6_ E7_ E8_ R0_ R1_ R2_ R3_ R4_ R5_ R6_ R7_ R8_ R9_ S0_ S1_ S2_ S3_ S4_ S5_ S6_ S7_ S8_ S9_; replace KS := KS.next C; replace KE := KE.next C; replace KR := KR.next C; replace KM := KM.next C; replace B := jq1 B C; replace D := jq1 D C; replace IR := jq7 IR C; replace IM := jq7 IM C; clear C; rw [hv2]; obtain ⟨R0_, R1_, R2_, R3_, R4_, R5_, R6_, R7_, R8_, R9_⟩ := jq0 KR; obtain ⟨S0_, S1_, S2_, S3_, S4_, S5_, S6_, S7_, S8_, S9_⟩ := jq0 KS; obtain ⟨E0_, E1_, E2_, E3_, E4_, E5_, E6_, E7_, E8_⟩ := jqa KE; go_wp2_with fail; go_ret; exact ⟨rfl, B⟩
    · have e0 : (x.k == 5) = false := by simpa using k5
      unfold numE at a1; rw [if_neg k5] at a1 a2
      have w1 : IntKind.i64.wrap (u.cm + 0) = u.cm + 0 := by rw [IntKind.wrap_i64]; omega
      have w2 : IntKind.i64.wrap (u.tm + 0) = u.tm + 0 := by rw [IntKind.wrap_i64]; omega
      have e1 : (u2.cm == u.cm + 0) = true := by simp [a1]
      have e2 : (u2.tm == u.tm + 0) = true := by simp [a2]
      have w3 : IntKind.i64.wrap u.cm = u.cm := by rw [IntKind.wrap_i64]; omega
      have w4 : IntKind.i64.wrap u.tm = u.tm := by rw [IntKind.wrap_i64]; omega
      have e4 : (u2.cm == u.cm) = true := by simp [a1]
      have e5 : (u2.tm == u.tm) = true := by simp [a2]
      clear hsh k5 a1 a2 m0 m1 tm0
      go_wp2_with (first | (show wpList _ _ _ ({ dst := some _, op := _, type := _, pos := _, after := _, guard := _ } :: _) _ (World.alloc _ _); rw [← HU6.out]))
      refine (eqTw p1 p2 u2 _ IR IM).mono ?_; rintro e u7 ⟨rfl, C⟩; clear M0_ M1_ M2_ M3_ M4_ M5_ M6_ M7_ M8_ M9_ R0_ R1_ R2_ R3_ R4_ R5_ R6_ R7_ R8_ R9_; replace KS := KS.next C; replace KE := KE.next C; replace KR := KR.next C; replace KM := KM.next C; replace B := jq1 B C; replace D := jq1 D C; replace IR := jq7 IR C; replace IM := jq7 IM C; clear C; obtain ⟨R0_, R1_, R2_, R3_, R4_, R5_, R6_, R7_, R8_, R9_⟩ := jq0 KR; obtain ⟨S0_, S1_, S2_, S3_, S4_, S5_, S6_, S7_, S8_, S9_⟩ := jq0 KS; obtain ⟨E0_, E1_, E2_, E3_, E4_, E5_, E6_, E7_, E8_⟩ := jqa KE; go_wp2_with fail; refine (iVTw p1 u2 _ IR).mono ?_; rintro e u8 ⟨rfl, C⟩; clear E0_ E1_ E2_ E3_ E4_ E5_ E6_ E7_ E8_ R0_ R1_ R2_ R3_ R4_ R5_ R6_ R7_ R8_ R9_ S0_ S1_ S2_ S3_ S4_ S5_ S6_ S7_ S8_ S9_; replace KS := KS.next C; replace KE := KE.next C; replace KR := KR.next C; replace KM := KM.next C; replace B := jq1 B C; replace D := jq1 D C; replace IR := jq7 IR C; replace IM := jq7 IM C; clear C; rw [hv2]; obtain ⟨R0_, R1_, R2_, R3_, R4_, R5_, R6_, R7_, R8_, R9_⟩ := jq0 KR; obtain ⟨S0_, S1_, S2_, S3_, S4_, S5_, S6_, S7_, S8_, S9_⟩ := jq0 KS; obtain ⟨E0_, E1_, E2_, E3_, E4_, E5_, E6_, E7_, E8_⟩ := jqa KE; go_wp2_with fail; go_ret; exact ⟨rfl, B⟩

theorem lifted (os : Os) (started : os.Started) (H : Type) (enc : TypeId × Value → H) :
  ReturnsInHanded {} Tryz.checked os 3 .any (Rows.fnApplyEventSpec.pre6 enc Tryz.prog Tryz.f3 Rows.fnApplyEventRow.domain false) (Rows.fnApplyEventSpec.post enc Tryz.prog Tryz.f3 false true false false) := by
 refine returnsInHanded_of_change (C := Tryz.checked) own started (by kernel_rfl) Tryz.func3
  (ChangeSpec.witness6 (enc := enc) (C := Tryz.checked) false ⟨#[], #[.slice none 0 0], []⟩ 8 (by kernel_rfl) (by kernel_rfl) (by kernel_rfl) (by kernel_rfl)) ?_
 intro W base args ds gs before hval0 hW hcnd _; have hval : ∀ (j : Nat) t v, Tryz.f3.params[j]? = some t → args[j]? = some v → Value.okWide Tryz.prog W .any base t v := hval0; have hW' := hW; obtain ⟨p, q, hA0, hV, rfl, hfz, hnd⟩ := hW; have hA : DataW.TrodAll enc Tryz.prog W 0 (fun _ => true) true Tryz.f3.params.toList args.toList ds p := hA0; rw [Tryz.params3] at hA hval; obtain ⟨v0, vs0, e0, es0, p0, q0, hargs, rfl, rfl, h0, r0⟩ := trodAll_cons hA; obtain ⟨rfl, rfl, rfl⟩ := trodAll_nil r0
 obtain rfl : args = #[v0] := by cases args; simp_all
 obtain ⟨rfl, rfl⟩ := trodVars_none hV; have k0 := h0
 have lt0 : ∀ x ∈ p0, x.block < W.heap.size := by obtain ⟨m, hm⟩ := k0; exact DataW.trod_lt m _ _ _ hm
 obtain ⟨a0, len0, cap0, rfl⟩ := okWide_slice Tryz.underlying22 (hval 0 22 v0 rfl rfl)
 obtain ⟨z0, w0⟩ : ∃ zs, IsRow .u8 W a0 len0 cap0 zs := by
  obtain ⟨fuel, hf⟩ := h0
  rcases open_ints Tryz.underlying22 Tryz.underlying5 (by kernel_rfl) hf with ⟨hcs, _⟩ | ⟨x, l, c, zs, hcs, _, hl, hm, hz, _, hcell, hwz⟩
  ·simp [Value.cells] at hcs
   obtain ⟨rfl, rfl, rfl⟩ := hcs; exact ⟨[], .inl ⟨rfl, rfl, rfl, rfl⟩⟩
  ·simp [Value.cells] at hcs
   obtain ⟨rfl, rfl, rfl⟩ := hcs; exact ⟨zs, .inr ⟨_, rfl, hl, hm, by simpa using hz, hcell, hwz⟩⟩
 clear hA0 hval0
 refine (walk a0 len0 cap0 z0 W w0).mono fun e W' ⟨he, bel⟩ => ?_
 subst he; exact ⟨_, rfl, _, _, _, [], _, [], hW', trodAll_mk1 (shut_bool Tryz.underlying4 _), (trodAll_cons_mk (Below.trod laidOut (by kernel_rfl) (of_decide_eq_true (by kernel_rfl)) k0 bel lt0) trodAll_mk0), rfl, bel.frame _, fun h => by cases h⟩

theorem over : Rows.fnApplyEventRow.holds Tryz.pinned (OpenSpec.ofChange Rows.fnApplyEventSpec) :=
 OpenClaim.holds_of_wide 3 Tryz.f3 rfl rfl rfl rfl rfl rfl rfl ⟨rfl, rfl, rfl, rfl, rfl⟩ rfl rfl rfl rfl rfl (by kernel_rfl) Tryz.func3 (by kernel_rfl)
  (of_decide_eq_true (by kernel_rfl)) (by unfold Func.isWrapper; first | (rw [if_pos (by decide +kernel)]; kernel_rfl) | (rw [if_neg (by decide +kernel)]; exact ⟨rfl, rfl⟩))
  (fun os started H enc _ => lifted os started H enc)

end Go.Proofs.YtaehemmjemhgpabGreat.fnApplyEvent
namespace Go.Proofs.YtaehemmjemhgpabGreat
theorem fnApplyEvent_holds : Rows.FnApplyEventSaid := fnApplyEvent.over
end Go.Proofs.YtaehemmjemhgpabGreat
