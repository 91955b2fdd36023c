/- The towns that the laws draw. Condition: the reader has read at most 20000 numbers before. -/
import Derived.Test.YtaehemmjemhgpaaPCDrawBk
import Derived.Test.YtaehemmjemhgpaaPCG3
import Derived.Test.YtaehemmjemhgpaaPCG6
set_option maxRecDepth 100000
set_option maxHeartbeats 16000000
namespace Go.Proofs.Ytaehemmjemhgpaa
open Go.RowKit
set_option linter.unusedSimpArgs false
set_option linter.unusedVariables false
theorem rowF_offT {w y : World} {base n g : Nat} {t T : TypeId} {v : Value} {zs : List Int} {cs : Array Value} (h : RowF w base t v n zs) (K : Blk w g T cs) (hne : t ≠ T) (hy : ∀ i, i ≠ g → y.heap[i]? = w.heap[i]?) : RowF y base t v n zs := by
 rcases h with h | ⟨g', cap, hv, hg, F, hn⟩
 ·exact .inl h
 ·refine .inr ⟨g', cap, hv, hg, ?_, hn⟩
  obtain ⟨cs', K', hc⟩ := F; refine ⟨cs', (hy g' (fun e => ?_)).trans K', hc⟩; subst e; have K0 : w.heap[g']? = some (Obj.cells cs' t (0, 0)) := K'; have K1 : w.heap[g']? = some (Obj.cells cs T (0, 0)) := K; have K2 := K0.symm.trans K1; injection K2 with K2; injection K2 with _ h3; exact hne h3
theorem TwO.offN {w y : World} {base g : Nat} {p : TA} {t : Tw} {cs : Array Value} (h : TwO w base p t) (K : Blk w g 49 cs) (hy : ∀ i, i ≠ g → y.heap[i]? = w.heap[i]?) : TwO y base p t :=
 ⟨rowF_offT h.o1 K (by decide) hy, h.n1, rowF_offT h.o2 K (by decide) hy, h.n2, rowF_offT h.o3 K (by decide) hy, h.n3, rowF_offT h.o4 K (by decide) hy, h.n4⟩
def FirstTw (w : World) (b : Nat) (P : Int) (e : Ending) (w' : World) : Prop := ∃ (p : TA) (t : Tw), e = .returned (.agg #[.slice p.a1 t.hs.length p.c1, .slice p.a2 t.ts.length p.c2, .slice p.a3 t.ns.length p.c3, .int .i64 t.r, .int .i64 t.hd, .slice p.a4 t.ac.length p.c4, .int .i64 t.rt, .int .i64 t.tm, .int .i64 t.ls, .int .i64 t.cm]) ∧ (twB t = true ∧ t.ac = []) ∧ TwO w' w.heap.size p t ∧ Rd w' b (P + 3) ∧ w.grownBy w' (some b)
theorem firstTw (b : Nat) (P : Int) (w : World) (h : Rd w b P) (hP : P ≤ 90000) (hb : b < w.heap.size) :
  Calls Try.prog 147 #[.pointer (some ⟨b, 0, none⟩)] w (FirstTw w b P) := by
 have neR : w.heap.size ≠ b := by omega
 obtain ⟨w0, hw0⟩ : ∃ y, y = w.alloc (.cells #[.slice none 0 0, .slice none 0 0, .slice none 0 0, .int .i64 0, .int .i64 0, .slice none 0 0, .int .i64 0, .int .i64 0, .int .i64 0, .int .i64 0] 49) := ⟨_, rfl⟩
 have B0 : Below w.heap.size w w0 := by subst hw0; go_grown
 have KR : Blk w0 w.heap.size 49 #[.slice none 0 0, .slice none 0 0, .slice none 0 0, .int .i64 0, .int .i64 0, .slice none 0 0, .int .i64 0, .int .i64 0, .int .i64 0, .int .i64 0] := by subst hw0; exact Blk.new _ _ _
 have R0 : Rd w0 b P := jz3 h hb B0; have G0 : w.grownBy w0 (some b) := jxb B0 _; have hb0 := Nat.lt_of_lt_of_le hb G0.size; have HW0 := Lib.hid hw0; clear h hw0 B0; go_enter Try.func147, Try.ntmps147
 go_upto_region 1 with fail
 rw [← HW0.out]; go_wp2_with fail; refine (jx2 b _ 5 _ R0 (by omega)).mono ?_; rintro e U ⟨q, rfl, hq, R1, hG⟩
 have wq : IntKind.i64.wrap (1 + (q : Int)) = 1 + (q : Int) := by rw [IntKind.wrap_i64]; omega
 replace KR := jqj KR hG neR; have G1 := jqe G0 hG; have hb1 := Nat.lt_of_lt_of_le hb G1.size; clear R0 G0 hG HW0; go_wp2_with fail; refine (jv4 b 4 _ 0 100 [30, 100, 0, 20] _ U R1 (by omega) hb1 rfl (by omega) (by omega) (by simp)).mono ?_; rintro e V ⟨r, rfl, r0, r1, R2, hG⟩; replace KR := jqj KR hG neR; have G2 := jqe G1 hG; have hb2 := Nat.lt_of_lt_of_le hb G2.size; clear R1 G1 hG; go_wp2_with fail; refine (jv4 b 5 _ 0 500 [15, 30, 10, 500, 0] _ V R2 (by omega) hb2 rfl (by omega) (by omega) (by simp)).mono ?_; rintro e V2 ⟨m, rfl, m0, m1, R3, hG⟩; replace KR := jqj KR hG neR; have G3 := jqe G2 hG; have hb3 := Nat.lt_of_lt_of_le hb G3.size; clear R2 G2 hG
 have HN : Hid (twB (newT (1 + (q : Int)) r m) = true ∧ (newT (1 + (q : Int)) r m).ac = []) := by
  have hc : (inB3 (1 + (q : Int)) 1 999 && (inB3 r 0 20000 && inB3 m 0 500)) = true := by
   rw [inB3_of ⟨by omega, by omega⟩, inB3_of ⟨by omega, by omega⟩, inB3_of ⟨by omega, by omega⟩]; rfl
  obtain ⟨h1, h2⟩ := new_ok hc; exact ⟨h2, by rw [h1]⟩
 clear hq r0 r1 m0 m1; go_wp2_with fail; refine (sNewTown (1 + (q : Int)) r m V2).mono ?_; rintro e W ⟨p, he, hO, C⟩; generalize newT (1 + (q : Int)) r m = t at he hO HN; change e = .returned (.agg #[.slice p.a1 t.hs.length p.c1, .slice p.a2 t.ts.length p.c2, .slice p.a3 t.ns.length p.c3, .int .i64 t.r, .int .i64 t.hd, .slice p.a4 t.ac.length p.c4, .int .i64 t.rt, .int .i64 t.tm, .int .i64 t.ls, .int .i64 t.cm]) at he; subst he; have HK := Lib.hid (KR.next C)
 have HG : Hid (Rd W b (P + 3) ∧ w.grownBy W (some b)) := ⟨jxa (jz3 R3 hb3 C) (by omega), jqe G3 (jxb C _)⟩
 have HO := Lib.hid (hO.base G3.size); clear R3 G3 C KR hO wq
 obtain ⟨y1, hy⟩ : ∃ Y_, Y_ = jqg W w.heap.size (.slice p.a1 t.hs.length p.c1) (.slice p.a2 t.ts.length p.c2) (.slice p.a3 t.ns.length p.c3) (.int .i64 t.r) (.int .i64 t.hd) (.slice p.a4 t.ac.length p.c4) (.int .i64 t.rt) (.int .i64 t.tm) (.int .i64 t.ls) (.int .i64 t.cm) := ⟨_, rfl⟩
 have KF := jxc (v0 := .slice p.a1 t.hs.length p.c1) (v1 := .slice p.a2 t.ts.length p.c2) (v2 := .slice p.a3 t.ns.length p.c3) (v3 := .int .i64 t.r) (v4 := .int .i64 t.hd) (v5 := .slice p.a4 t.ac.length p.c4) (v6 := .int .i64 t.rt) (v7 := .int .i64 t.tm) (v8 := .int .i64 t.ls) (v9 := .int .i64 t.cm) HK.out; rw [← hy] at KF; obtain ⟨z0, z1, z2, z3, z4, z5, z6, z7, z8, z9⟩ := jq0 KF; have HF := Lib.hid (show Rd y1 b (P + 3) ∧ w.grownBy y1 (some b) by subst hy; exact jj4 (g := 0) HG.out.1 hb HG.out.2 (jj5 (Nat.le_refl _) _ _ _ _ _ _ _ _ _ _)); have HT := Lib.hid (X10o HO.out HK.out hy); have HY := Lib.hid hy; clear KF hy
 go_wp2_with (first | (show wpList _ _ _ ({ dst := _, op := Op.store _ _ _, type := _, pos := _, after := _, guard := _ } :: _) _ _; refine jzi rfl _ _ _ rfl w.heap.size (.slice p.a1 t.hs.length p.c1) (.slice p.a2 t.ts.length p.c2) (.slice p.a3 t.ns.length p.c3) (.int .i64 t.r) (.int .i64 t.hd) (.slice p.a4 t.ac.length p.c4) (.int .i64 t.rt) (.int .i64 t.tm) (.int .i64 t.ls) (.int .i64 t.cm) rfl rfl HK.out (by kernel_rfl) rfl ?_; rw [← HY.out]))
 refine bodyPost_ret (v := .agg #[.slice p.a1 t.hs.length p.c1, .slice p.a2 t.ts.length p.c2, .slice p.a3 t.ns.length p.c3, .int .i64 t.r, .int .i64 t.hd, .slice p.a4 t.ac.length p.c4, .int .i64 t.rt, .int .i64 t.tm, .int .i64 t.ls, .int .i64 t.cm]) (by simp [results, Try.results147, go_sem, z0, z1, z2, z3, z4, z5, z6, z7, z8, z9]) rfl ⟨p, t, rfl, HN.out, HT.out, HF.out.1, HF.out.2⟩
def SomeTw (w : World) (b : Nat) (P : Int) (e : Ending) (w' : World) : Prop := ∃ (q : TA) (u : Tw), e = .returned (.agg #[.slice q.a1 u.hs.length q.c1, .slice q.a2 u.ts.length q.c2, .slice q.a3 u.ns.length q.c3, .int .i64 u.r, .int .i64 u.hd, .slice q.a4 u.ac.length q.c4, .int .i64 u.rt, .int .i64 u.tm, .int .i64 u.ls, .int .i64 u.cm]) ∧ twB u = true ∧ TwO w' w.heap.size q u ∧ Rd w' b (P + 1703) ∧ w.grownBy w' (some b)
theorem someTw (b : Nat) (P : Int) (w : World) (h : Rd w b P) (hP : P ≤ 25000) (hb : b < w.heap.size) :
  Calls Try.prog 94 #[.pointer (some ⟨b, 0, none⟩)] w (SomeTw w b P) := by
 have neR : w.heap.size ≠ b := by omega
 obtain ⟨w0, hw0⟩ : ∃ y, y = w.alloc (.cells #[.slice none 0 0, .slice none 0 0, .slice none 0 0, .int .i64 0, .int .i64 0, .slice none 0 0, .int .i64 0, .int .i64 0, .int .i64 0, .int .i64 0] 49) := ⟨_, rfl⟩
 have B0 : Below w.heap.size w w0 := by subst hw0; go_grown
 have KR : Blk w0 w.heap.size 49 #[.slice none 0 0, .slice none 0 0, .slice none 0 0, .int .i64 0, .int .i64 0, .slice none 0 0, .int .i64 0, .int .i64 0, .int .i64 0, .int .i64 0] := by subst hw0; exact Blk.new _ _ _
 have R0 : Rd w0 b P := jz3 h hb B0; have G0 : w.grownBy w0 (some b) := jxb B0 _; have hb0 := Nat.lt_of_lt_of_le hb G0.size; have HW0 := Lib.hid hw0; clear h hw0 B0; go_enter Try.func94, Try.ntmps94
 go_upto_region 1 with fail
 rw [← HW0.out]; go_wp2_with fail; refine (firstTw b _ _ R0 (by omega) hb0).mono ?_; rintro e U ⟨p, t, rfl, ⟨hv, hac⟩, hO, R1, hG⟩; clear hac; replace KR := jqj KR hG neR; have G1 := jqe G0 hG; have hb1 := Nat.lt_of_lt_of_le hb G1.size; replace hO := hO.base G0.size; have hs1 := G1.size; clear R0 G0 hG HW0; go_wp2_with fail; refine (someBk b _ p t w.heap.size U R1 (by omega) hb1 hO hb hs1 hv).mono ?_; rintro e V ⟨a, cap, es, EV, q, u, rfl, x1, x2, x3, hO2, hv2, x4, R2, hG⟩; clear x1 x2 x3 x4; replace KR := jqj KR hG neR; have G2 := jqe G1 hG; have hb2 := Nat.lt_of_lt_of_le hb G2.size; clear R1 G1 hG hO hs1
 obtain ⟨U4, hU4⟩ : ∃ y, y = V.alloc (.cells #[.slice q.a1 u.hs.length q.c1, .slice q.a2 u.ts.length q.c2, .slice q.a3 u.ns.length q.c3, .int .i64 u.r, .int .i64 u.hd, .slice q.a4 u.ac.length q.c4, .int .i64 u.rt, .int .i64 u.tm, .int .i64 u.ls, .int .i64 u.cm] 49) := ⟨_, rfl⟩
 have D4 : Below V.heap.size V U4 := by subst hU4; exact (Below.refl _ _).alloc (Nat.le_refl _) _
 have K4 : Blk U4 V.heap.size 49 #[.slice q.a1 u.hs.length q.c1, .slice q.a2 u.ts.length q.c2, .slice q.a3 u.ns.length q.c3, .int .i64 u.r, .int .i64 u.hd, .slice q.a4 u.ac.length q.c4, .int .i64 u.rt, .int .i64 u.tm, .int .i64 u.ls, .int .i64 u.cm] := by subst hU4; exact Blk.new _ _ _
 have HK := Lib.hid (KR.next D4)
 have HG : Hid (Rd U4 b (P + 1703) ∧ w.grownBy U4 (some b)) := ⟨jxa (jz3 R2 hb2 D4) (by omega), jqe G2 (jxb D4 _)⟩
 have HO := Lib.hid (hO2.next D4); have HV := Lib.hid hv2; have HU4 := Lib.hid hU4; clear R2 G2 D4 KR hO2 hU4 hv hv2; obtain ⟨f0_, f1_, f2_, f3_, f4_, f5_, f6_, f7_, f8_, f9_⟩ := jq0 K4; clear K4
 obtain ⟨y1, hy⟩ : ∃ Y_, Y_ = jqg U4 w.heap.size (.slice q.a1 u.hs.length q.c1) (.slice q.a2 u.ts.length q.c2) (.slice q.a3 u.ns.length q.c3) (.int .i64 u.r) (.int .i64 u.hd) (.slice q.a4 u.ac.length q.c4) (.int .i64 u.rt) (.int .i64 u.tm) (.int .i64 u.ls) (.int .i64 u.cm) := ⟨_, rfl⟩
 have KF := jxc (v0 := .slice q.a1 u.hs.length q.c1) (v1 := .slice q.a2 u.ts.length q.c2) (v2 := .slice q.a3 u.ns.length q.c3) (v3 := .int .i64 u.r) (v4 := .int .i64 u.hd) (v5 := .slice q.a4 u.ac.length q.c4) (v6 := .int .i64 u.rt) (v7 := .int .i64 u.tm) (v8 := .int .i64 u.ls) (v9 := .int .i64 u.cm) HK.out; rw [← hy] at KF; obtain ⟨z0, z1, z2, z3, z4, z5, z6, z7, z8, z9⟩ := jq0 KF; have HF := Lib.hid (show Rd y1 b (P + 1703) ∧ w.grownBy y1 (some b) by subst hy; exact jj4 (g := 0) HG.out.1 hb HG.out.2 (jj5 (Nat.le_refl _) _ _ _ _ _ _ _ _ _ _)); have HT := Lib.hid (X10o HO.out HK.out hy); have HY := Lib.hid hy; clear KF hy
 go_wp2_with (first | (show wpList _ _ _ ({ dst := some _, op := _, type := _, pos := _, after := _, guard := _ } :: _) _ (World.alloc _ _); rw [← HU4.out]) | (show wpList _ _ _ ({ dst := _, op := Op.store _ _ _, type := _, pos := _, after := _, guard := _ } :: _) _ _; refine jzi rfl _ _ _ rfl w.heap.size (.slice q.a1 u.hs.length q.c1) (.slice q.a2 u.ts.length q.c2) (.slice q.a3 u.ns.length q.c3) (.int .i64 u.r) (.int .i64 u.hd) (.slice q.a4 u.ac.length q.c4) (.int .i64 u.rt) (.int .i64 u.tm) (.int .i64 u.ls) (.int .i64 u.cm) rfl rfl HK.out (by kernel_rfl) rfl ?_; rw [← HY.out]))
 refine bodyPost_ret (v := .agg #[.slice q.a1 u.hs.length q.c1, .slice q.a2 u.ts.length q.c2, .slice q.a3 u.ns.length q.c3, .int .i64 u.r, .int .i64 u.hd, .slice q.a4 u.ac.length q.c4, .int .i64 u.rt, .int .i64 u.tm, .int .i64 u.ls, .int .i64 u.cm]) (by simp [results, Try.results94, go_sem, z0, z1, z2, z3, z4, z5, z6, z7, z8, z9]) rfl ⟨q, u, rfl, HV.out, HT.out, HF.out.1, HF.out.2⟩
def AnyTw (w : World) (b : Nat) (P : Int) (e : Ending) (w' : World) : Prop := ∃ (q : TA) (u : Tw), e = .returned (.agg #[.slice q.a1 u.hs.length q.c1, .slice q.a2 u.ts.length q.c2, .slice q.a3 u.ns.length q.c3, .int .i64 u.r, .int .i64 u.hd, .slice q.a4 u.ac.length q.c4, .int .i64 u.rt, .int .i64 u.tm, .int .i64 u.ls, .int .i64 u.cm]) ∧ TwO w' w.heap.size q u ∧ Rd w' b (P + 1710) ∧ w.grownBy w' (some b)
theorem anyTw (b : Nat) (P : Int) (w : World) (h : Rd w b P) (hP : P ≤ 20000) (hb : b < w.heap.size) :
  Calls Try.prog 79 #[.pointer (some ⟨b, 0, none⟩)] w (AnyTw w b P) := by
 have neR : w.heap.size ≠ b := by omega
 obtain ⟨w0, hw0⟩ : ∃ y, y = w.alloc (.cells #[.slice none 0 0, .slice none 0 0, .slice none 0 0, .int .i64 0, .int .i64 0, .slice none 0 0, .int .i64 0, .int .i64 0, .int .i64 0, .int .i64 0] 49) := ⟨_, rfl⟩
 have B0 : Below w.heap.size w w0 := by subst hw0; go_grown
 have KR : Blk w0 w.heap.size 49 #[.slice none 0 0, .slice none 0 0, .slice none 0 0, .int .i64 0, .int .i64 0, .slice none 0 0, .int .i64 0, .int .i64 0, .int .i64 0, .int .i64 0] := by subst hw0; exact Blk.new _ _ _
 have R0 : Rd w0 b P := jz3 h hb B0; have G0 : w.grownBy w0 (some b) := jxb B0 _; have hb0 := Nat.lt_of_lt_of_le hb G0.size; have HW0 := Lib.hid hw0; clear h hw0 B0; go_enter Try.func79, Try.ntmps79
 go_upto_region 1 with fail
 rw [← HW0.out]; go_wp2_with fail; refine (someTw b _ _ R0 (by omega) hb0).mono ?_; rintro e V ⟨q, u, rfl, hv, hO2, R2, hG⟩; have lR := KR.lt; replace KR := jqj KR hG neR; have G2 := jqe G0 hG; have hb2 := Nat.lt_of_lt_of_le hb G2.size; have lV := Nat.lt_of_lt_of_le lR hG.size; replace hO2 := hO2.base G0.size; clear R0 hG HW0 lR G0
 obtain ⟨U4, hU4⟩ : ∃ y, y = V.alloc (.cells #[.slice q.a1 u.hs.length q.c1, .slice q.a2 u.ts.length q.c2, .slice q.a3 u.ns.length q.c3, .int .i64 u.r, .int .i64 u.hd, .slice q.a4 u.ac.length q.c4, .int .i64 u.rt, .int .i64 u.tm, .int .i64 u.ls, .int .i64 u.cm] 49) := ⟨_, rfl⟩
 have D4 : Below V.heap.size V U4 := by subst hU4; exact (Below.refl _ _).alloc (Nat.le_refl _) _
 have KB : Blk U4 V.heap.size 49 #[.slice q.a1 u.hs.length q.c1, .slice q.a2 u.ts.length q.c2, .slice q.a3 u.ns.length q.c3, .int .i64 u.r, .int .i64 u.hd, .slice q.a4 u.ac.length q.c4, .int .i64 u.rt, .int .i64 u.tm, .int .i64 u.ls, .int .i64 u.cm] := by subst hU4; exact Blk.new _ _ _
 replace KR := KR.next D4; replace R2 := jz3 R2 hb2 D4; replace G2 := jqe G2 (jxb D4 _); have hO := hO2.next D4; have HU4 := Lib.hid hU4; have l1 := (tw_nums hv).2.1; clear D4 hO2 hU4 hv
 go_upto_region 2 with fail
 rw [← HU4.out]; clear HU4
 obtain ⟨gB, hgB⟩ : ∃ g, g = V.heap.size := ⟨_, rfl⟩
 rw [← hgB] at KB lV ⊢
 have neB : gB ≠ b := by omega
 have lB : w.heap.size ≤ gB := by omega
 have nRB : w.heap.size ≠ gB := by omega
 clear hgB hb2; go_wp2_with fail; refine (jx2 b _ 20 _ R2 (by omega)).mono ?_; rintro e W ⟨s, rfl, hs, R, hG⟩; replace KB := jqj KB hG neB; replace KR := jqj KR hG neR; replace hO := hO.far hG hb; have G := jqe G2 hG; clear R2 G2 hG
 by_cases s0 : s = 0
 ·have e0 : ((s : Int) == 0) = true := by simp [s0]
  have wl : IntKind.i64.wrap (u.ls + 1) = u.ls + 1 := by rw [IntKind.wrap_i64]; omega
  clear s0 hs l1
  obtain ⟨y0, hy0⟩ : ∃ Y_, Y_ = World.setCell W ⟨gB, 8, none⟩ (.int .i64 (u.ls + 1)) := ⟨_, rfl⟩
  have KB0 := S10_8 KB hy0; have KR0 := fS KR hy0 (by omega); have hO0 : TwO y0 w.heap.size q u := hO.offN KB (fun i hi => by rw [hy0]; exact Below.heap_setCell W ⟨gB, 8, none⟩ _ i hi)
  have HG : Hid (Rd y0 b (P + 1710) ∧ w.grownBy y0 (some b)) := by
   rw [hy0]; exact jj4 (g := 0) (jxa (P' := P + 1710) R (by omega)) hb G ((Below.refl w.heap.size W).setCell (p := ⟨gB, 8, none⟩) lB _)
  have fzB := KB.frozen 8; obtain ⟨f0_, f1_, f2_, f3_, f4_, f5_, f6_, f7_, f8_, f9_⟩ := jq0 KB; obtain ⟨h0_, h1_, h2_, h3_, h4_, h5_, h6_, h7_, h8_, h9_⟩ := jq0 KB0; have HK := Lib.hid KR0; have HKB := Lib.hid KB0
  have HO : Hid (TwO y0 w.heap.size q ⟨u.hs, u.ts, u.ns, u.r, u.hd, u.ac, u.rt, u.tm, u.ls + 1, u.cm⟩) := ⟨hO0.o1, hO0.n1, hO0.o2, hO0.n2, hO0.o3, hO0.n3, hO0.o4, hO0.n4⟩
  have HY0 := Lib.hid hy0; clear KB KR KB0 KR0 hO hO0 R G hy0
  obtain ⟨y1, hy⟩ : ∃ Y_, Y_ = jqg y0 w.heap.size (.slice q.a1 u.hs.length q.c1) (.slice q.a2 u.ts.length q.c2) (.slice q.a3 u.ns.length q.c3) (.int .i64 u.r) (.int .i64 u.hd) (.slice q.a4 u.ac.length q.c4) (.int .i64 u.rt) (.int .i64 u.tm) (.int .i64 (u.ls + 1)) (.int .i64 u.cm) := ⟨_, rfl⟩
  have KF := jxc (v0 := .slice q.a1 u.hs.length q.c1) (v1 := .slice q.a2 u.ts.length q.c2) (v2 := .slice q.a3 u.ns.length q.c3) (v3 := .int .i64 u.r) (v4 := .int .i64 u.hd) (v5 := .slice q.a4 u.ac.length q.c4) (v6 := .int .i64 u.rt) (v7 := .int .i64 u.tm) (v8 := .int .i64 (u.ls + 1)) (v9 := .int .i64 u.cm) HK.out; rw [← hy] at KF; obtain ⟨z0, z1, z2, z3, z4, z5, z6, z7, z8, z9⟩ := jq0 KF; have HF := Lib.hid (show Rd y1 b (P + 1710) ∧ w.grownBy y1 (some b) by subst hy; exact jj4 (g := 0) HG.out.1 hb HG.out.2 (jj5 (Nat.le_refl _) _ _ _ _ _ _ _ _ _ _)); have HT := Lib.hid (X10o HO.out HK.out hy); have HY := Lib.hid hy; clear KF hy
  go_wp2_with (first | (show wpList _ _ _ _ _ (World.setCell W _ _); rw [← HY0.out]) | (show wpList _ _ _ ({ dst := _, op := Op.store _ _ _, type := _, pos := _, after := _, guard := _ } :: _) _ _; refine jzi rfl _ _ _ rfl w.heap.size (.slice q.a1 u.hs.length q.c1) (.slice q.a2 u.ts.length q.c2) (.slice q.a3 u.ns.length q.c3) (.int .i64 u.r) (.int .i64 u.hd) (.slice q.a4 u.ac.length q.c4) (.int .i64 u.rt) (.int .i64 u.tm) (.int .i64 (u.ls + 1)) (.int .i64 u.cm) rfl rfl HK.out (by kernel_rfl) rfl ?_; rw [← HY.out]))
  refine bodyPost_ret (v := .agg #[.slice q.a1 u.hs.length q.c1, .slice q.a2 u.ts.length q.c2, .slice q.a3 u.ns.length q.c3, .int .i64 u.r, .int .i64 u.hd, .slice q.a4 u.ac.length q.c4, .int .i64 u.rt, .int .i64 u.tm, .int .i64 (u.ls + 1), .int .i64 u.cm]) (by simp [results, Try.results79, go_sem, z0, z1, z2, z3, z4, z5, z6, z7, z8, z9]) rfl ⟨q, ⟨u.hs, u.ts, u.ns, u.r, u.hd, u.ac, u.rt, u.tm, u.ls + 1, u.cm⟩, rfl, HT.out, HF.out.1, HF.out.2⟩
 ·have e0 : ((s : Int) == 0) = false := by simp; omega
  by_cases s1 : s = 1
  ·have e1 : ((s : Int) == 1) = true := by simp [s1]
   have hbW := Nat.lt_of_lt_of_le hb G.size; clear s0 s1 hs l1; go_wp2_with fail; refine (jv4 b 3 _ (-1) 5001 [-1, 5001, 5000] _ W R (by omega) hbW rfl (by omega) (by omega) (by simp)).mono ?_; rintro e W2 ⟨z, rfl, z0, z1, R9, hG⟩; replace KB := jqj KB hG neB; replace KR := jqj KR hG neR; replace hO := hO.far hG hb; replace G := jqe G hG; clear R hG z0 z1 hbW; have R := R9; clear R9
   obtain ⟨y0, hy0⟩ : ∃ Y_, Y_ = World.setCell W2 ⟨gB, 7, none⟩ (.int .i64 z) := ⟨_, rfl⟩
   have KB0 := S10_7 KB hy0; have KR0 := fS KR hy0 (by omega); have hO0 : TwO y0 w.heap.size q u := hO.offN KB (fun i hi => by rw [hy0]; exact Below.heap_setCell W2 ⟨gB, 7, none⟩ _ i hi)
   have HG : Hid (Rd y0 b (P + 1710) ∧ w.grownBy y0 (some b)) := by
    rw [hy0]; exact jj4 (g := 0) (jxa (P' := P + 1710) R (by omega)) hb G ((Below.refl w.heap.size W2).setCell (p := ⟨gB, 7, none⟩) lB _)
   have fzB := KB.frozen 7; obtain ⟨f0_, f1_, f2_, f3_, f4_, f5_, f6_, f7_, f8_, f9_⟩ := jq0 KB; obtain ⟨h0_, h1_, h2_, h3_, h4_, h5_, h6_, h7_, h8_, h9_⟩ := jq0 KB0; have HK := Lib.hid KR0; have HKB := Lib.hid KB0
   have HO : Hid (TwO y0 w.heap.size q ⟨u.hs, u.ts, u.ns, u.r, u.hd, u.ac, u.rt, z, u.ls, u.cm⟩) := ⟨hO0.o1, hO0.n1, hO0.o2, hO0.n2, hO0.o3, hO0.n3, hO0.o4, hO0.n4⟩
   have HY0 := Lib.hid hy0; clear KB KR KB0 KR0 hO hO0 R G hy0
   obtain ⟨y1, hy⟩ : ∃ Y_, Y_ = jqg y0 w.heap.size (.slice q.a1 u.hs.length q.c1) (.slice q.a2 u.ts.length q.c2) (.slice q.a3 u.ns.length q.c3) (.int .i64 u.r) (.int .i64 u.hd) (.slice q.a4 u.ac.length q.c4) (.int .i64 u.rt) (.int .i64 z) (.int .i64 u.ls) (.int .i64 u.cm) := ⟨_, rfl⟩
   have KF := jxc (v0 := .slice q.a1 u.hs.length q.c1) (v1 := .slice q.a2 u.ts.length q.c2) (v2 := .slice q.a3 u.ns.length q.c3) (v3 := .int .i64 u.r) (v4 := .int .i64 u.hd) (v5 := .slice q.a4 u.ac.length q.c4) (v6 := .int .i64 u.rt) (v7 := .int .i64 z) (v8 := .int .i64 u.ls) (v9 := .int .i64 u.cm) HK.out; rw [← hy] at KF; obtain ⟨z0, z1, z2, z3, z4, z5, z6, z7, z8, z9⟩ := jq0 KF; have HF := Lib.hid (show Rd y1 b (P + 1710) ∧ w.grownBy y1 (some b) by subst hy; exact jj4 (g := 0) HG.out.1 hb HG.out.2 (jj5 (Nat.le_refl _) _ _ _ _ _ _ _ _ _ _)); have HT := Lib.hid (X10o HO.out HK.out hy); have HY := Lib.hid hy; clear KF hy
   go_wp2_with (first | (show wpList _ _ _ _ _ (World.setCell W2 _ _); rw [← HY0.out]) | (show wpList _ _ _ ({ dst := _, op := Op.store _ _ _, type := _, pos := _, after := _, guard := _ } :: _) _ _; refine jzi rfl _ _ _ rfl w.heap.size (.slice q.a1 u.hs.length q.c1) (.slice q.a2 u.ts.length q.c2) (.slice q.a3 u.ns.length q.c3) (.int .i64 u.r) (.int .i64 u.hd) (.slice q.a4 u.ac.length q.c4) (.int .i64 u.rt) (.int .i64 z) (.int .i64 u.ls) (.int .i64 u.cm) rfl rfl HK.out (by kernel_rfl) rfl ?_; rw [← HY.out]))
   refine bodyPost_ret (v := .agg #[.slice q.a1 u.hs.length q.c1, .slice q.a2 u.ts.length q.c2, .slice q.a3 u.ns.length q.c3, .int .i64 u.r, .int .i64 u.hd, .slice q.a4 u.ac.length q.c4, .int .i64 u.rt, .int .i64 z, .int .i64 u.ls, .int .i64 u.cm]) (by simp [results, Try.results79, go_sem, z0, z1, z2, z3, z4, z5, z6, z7, z8, z9]) rfl ⟨q, ⟨u.hs, u.ts, u.ns, u.r, u.hd, u.ac, u.rt, z, u.ls, u.cm⟩, rfl, HT.out, HF.out.1, HF.out.2⟩
  ·have e1 : ((s : Int) == 1) = false := by simp; omega
   by_cases s2 : s = 2
   ·have e2 : ((s : Int) == 2) = true := by simp [s2]
    clear s0 s1 s2 hs l1
    obtain ⟨y0, hy0⟩ : ∃ Y_, Y_ = World.setCell W ⟨gB, 1, none⟩ (.slice none 0 0) := ⟨_, rfl⟩
    have KB0 := S10_1 KB hy0; have KR0 := fS KR hy0 (by omega); have hO0 : TwO y0 w.heap.size q u := hO.offN KB (fun i hi => by rw [hy0]; exact Below.heap_setCell W ⟨gB, 1, none⟩ _ i hi)
    have HG : Hid (Rd y0 b (P + 1710) ∧ w.grownBy y0 (some b)) := by
     rw [hy0]; exact jj4 (g := 0) (jxa (P' := P + 1710) R (by omega)) hb G ((Below.refl w.heap.size W).setCell (p := ⟨gB, 1, none⟩) lB _)
    have fzB := KB.frozen 1; obtain ⟨f0_, f1_, f2_, f3_, f4_, f5_, f6_, f7_, f8_, f9_⟩ := jq0 KB; obtain ⟨h0_, h1_, h2_, h3_, h4_, h5_, h6_, h7_, h8_, h9_⟩ := jq0 KB0; have HK := Lib.hid KR0; have HKB := Lib.hid KB0
    have HO : Hid (TwO y0 w.heap.size ⟨q.a1, q.c1, none, 0, q.a3, q.c3, q.a4, q.c4⟩ ⟨u.hs, [], u.ns, u.r, u.hd, u.ac, u.rt, u.tm, u.ls, u.cm⟩) := ⟨hO0.o1, hO0.n1, .inl ⟨rfl, rfl⟩, Nat.zero_le _, hO0.o3, hO0.n3, hO0.o4, hO0.n4⟩
    have HY0 := Lib.hid hy0; clear KB KR KB0 KR0 hO hO0 R G hy0
    obtain ⟨y1, hy⟩ : ∃ Y_, Y_ = jqg y0 w.heap.size (.slice q.a1 u.hs.length q.c1) (.slice none 0 0) (.slice q.a3 u.ns.length q.c3) (.int .i64 u.r) (.int .i64 u.hd) (.slice q.a4 u.ac.length q.c4) (.int .i64 u.rt) (.int .i64 u.tm) (.int .i64 u.ls) (.int .i64 u.cm) := ⟨_, rfl⟩
    have KF := jxc (v0 := .slice q.a1 u.hs.length q.c1) (v1 := .slice none 0 0) (v2 := .slice q.a3 u.ns.length q.c3) (v3 := .int .i64 u.r) (v4 := .int .i64 u.hd) (v5 := .slice q.a4 u.ac.length q.c4) (v6 := .int .i64 u.rt) (v7 := .int .i64 u.tm) (v8 := .int .i64 u.ls) (v9 := .int .i64 u.cm) HK.out; rw [← hy] at KF; obtain ⟨z0, z1, z2, z3, z4, z5, z6, z7, z8, z9⟩ := jq0 KF; have HF := Lib.hid (show Rd y1 b (P + 1710) ∧ w.grownBy y1 (some b) by subst hy; exact jj4 (g := 0) HG.out.1 hb HG.out.2 (jj5 (Nat.le_refl _) _ _ _ _ _ _ _ _ _ _)); have HT := Lib.hid (X10o HO.out HK.out hy); have HY := Lib.hid hy; clear KF hy
    go_wp2_with (first | (show wpList _ _ _ _ _ (World.setCell W _ _); rw [← HY0.out]) | (show wpList _ _ _ ({ dst := _, op := Op.store _ _ _, type := _, pos := _, after := _, guard := _ } :: _) _ _; refine jzi rfl _ _ _ rfl w.heap.size (.slice q.a1 u.hs.length q.c1) (.slice none 0 0) (.slice q.a3 u.ns.length q.c3) (.int .i64 u.r) (.int .i64 u.hd) (.slice q.a4 u.ac.length q.c4) (.int .i64 u.rt) (.int .i64 u.tm) (.int .i64 u.ls) (.int .i64 u.cm) rfl rfl HK.out (by kernel_rfl) rfl ?_; rw [← HY.out]))
    refine bodyPost_ret (v := .agg #[.slice q.a1 u.hs.length q.c1, .slice none 0 0, .slice q.a3 u.ns.length q.c3, .int .i64 u.r, .int .i64 u.hd, .slice q.a4 u.ac.length q.c4, .int .i64 u.rt, .int .i64 u.tm, .int .i64 u.ls, .int .i64 u.cm]) (by simp [results, Try.results79, go_sem, z0, z1, z2, z3, z4, z5, z6, z7, z8, z9]) rfl ⟨⟨q.a1, q.c1, none, 0, q.a3, q.c3, q.a4, q.c4⟩, ⟨u.hs, [], u.ns, u.r, u.hd, u.ac, u.rt, u.tm, u.ls, u.cm⟩, rfl, HT.out, HF.out.1, HF.out.2⟩
   ·have e2 : ((s : Int) == 2) = false := by simp; omega
    clear s0 s1 s2 hs l1
    have HG : Hid (Rd W b (P + 1710) ∧ w.grownBy W (some b)) := ⟨jxa (P' := P + 1710) R (by omega), G⟩
    obtain ⟨f0_, f1_, f2_, f3_, f4_, f5_, f6_, f7_, f8_, f9_⟩ := jq0 KB; have HK := Lib.hid KR; have HO := Lib.hid hO; clear KB KR hO R G
    obtain ⟨y1, hy⟩ : ∃ Y_, Y_ = jqg W w.heap.size (.slice q.a1 u.hs.length q.c1) (.slice q.a2 u.ts.length q.c2) (.slice q.a3 u.ns.length q.c3) (.int .i64 u.r) (.int .i64 u.hd) (.slice q.a4 u.ac.length q.c4) (.int .i64 u.rt) (.int .i64 u.tm) (.int .i64 u.ls) (.int .i64 u.cm) := ⟨_, rfl⟩
    have KF := jxc (v0 := .slice q.a1 u.hs.length q.c1) (v1 := .slice q.a2 u.ts.length q.c2) (v2 := .slice q.a3 u.ns.length q.c3) (v3 := .int .i64 u.r) (v4 := .int .i64 u.hd) (v5 := .slice q.a4 u.ac.length q.c4) (v6 := .int .i64 u.rt) (v7 := .int .i64 u.tm) (v8 := .int .i64 u.ls) (v9 := .int .i64 u.cm) HK.out; rw [← hy] at KF; obtain ⟨z0, z1, z2, z3, z4, z5, z6, z7, z8, z9⟩ := jq0 KF; have HF := Lib.hid (show Rd y1 b (P + 1710) ∧ w.grownBy y1 (some b) by subst hy; exact jj4 (g := 0) HG.out.1 hb HG.out.2 (jj5 (Nat.le_refl _) _ _ _ _ _ _ _ _ _ _)); have HT := Lib.hid (X10o HO.out HK.out hy); have HY := Lib.hid hy; clear KF hy
    go_wp2_with (first | (show wpList _ _ _ ({ dst := _, op := Op.store _ _ _, type := _, pos := _, after := _, guard := _ } :: _) _ _; refine jzi rfl _ _ _ rfl w.heap.size (.slice q.a1 u.hs.length q.c1) (.slice q.a2 u.ts.length q.c2) (.slice q.a3 u.ns.length q.c3) (.int .i64 u.r) (.int .i64 u.hd) (.slice q.a4 u.ac.length q.c4) (.int .i64 u.rt) (.int .i64 u.tm) (.int .i64 u.ls) (.int .i64 u.cm) rfl rfl HK.out (by kernel_rfl) rfl ?_; rw [← HY.out]))
    refine bodyPost_ret (v := .agg #[.slice q.a1 u.hs.length q.c1, .slice q.a2 u.ts.length q.c2, .slice q.a3 u.ns.length q.c3, .int .i64 u.r, .int .i64 u.hd, .slice q.a4 u.ac.length q.c4, .int .i64 u.rt, .int .i64 u.tm, .int .i64 u.ls, .int .i64 u.cm]) (by simp [results, Try.results79, go_sem, z0, z1, z2, z3, z4, z5, z6, z7, z8, z9]) rfl ⟨q, u, rfl, HT.out, HF.out.1, HF.out.2⟩
end Go.Proofs.Ytaehemmjemhgpaa
