/- The events that the laws draw. Condition: the reader has read at most 40000 numbers before. -/
import Derived.Test.YtaehemmjemhgpaaPCG0
import Derived.Test.YtaehemmjemhgpaaPCDrawDd
import Derived.Test.YtaehemmjemhgpaaPCG1
import Derived.Deep.RegionHeld3
import Derived.Deep.QuietTactic
import Derived.BigQuiet
import Derived.RegionTactic
set_option maxRecDepth 100000
set_option maxHeartbeats 16000000
namespace Go.Proofs.Ytaehemmjemhgpaa
open Go.RowKit
set_option linter.unusedSimpArgs false
set_option linter.unusedVariables false

def SomeEv (w : World) (b : Nat) (P : Int) (e : Ending) (w' : World) : Prop := ∃ (A : Option Addr) (cz : Nat) (x : Ev), e = .returned (.agg #[.int .i64 x.k, .int .i64 x.dd.k, .int .i64 x.dd.o, .int .i64 x.dd.t, .int .i64 x.dd.n, .int .i64 x.dd.d, .slice A x.dd.zs.length cz, .int .i64 x.at_, .int .i64 x.nu]) ∧ x.dd.zs.length ≤ 4 ∧ x.dd.zs.length ≤ cz ∧ jqf w' A x.dd.zs ∧ (∀ ad, A = some ad → w.heap.size ≤ ad.block) ∧ Rd w' b (P + 80) ∧ w.grownBy w' (some b)
theorem someEv (b : Nat) (P : Int) (p : TA) (t_ : Tw) (base : Nat) (w : World) (h : Rd w b P) (hP : P ≤ 40000) (hb : b < w.heap.size) (hO : TwO w base p t_) (hbb : b < base) :
  Calls Try.prog 93 #[.pointer (some ⟨b, 0, none⟩), twV p t_] w (SomeEv w b P) := by
 have neT : w.heap.size ≠ b := by omega
 have neR : w.heap.size + 1 ≠ b := by omega
 obtain ⟨w0, hw0⟩ : ∃ y, y = (w.alloc (.cells #[.slice p.a1 t_.hs.length p.c1, .slice p.a2 t_.ts.length p.c2, .slice p.a3 t_.ns.length p.c3, .int .i64 t_.r, .int .i64 t_.hd, .slice p.a4 t_.ac.length p.c4, .int .i64 t_.rt, .int .i64 t_.tm, .int .i64 t_.ls, .int .i64 t_.cm] 49)).alloc (.cells #[.int .i64 0, .int .i64 0, .int .i64 0, .int .i64 0, .int .i64 0, .int .i64 0, .slice none 0 0, .int .i64 0, .int .i64 0] 63) := ⟨_, rfl⟩
 have KT : Blk w0 w.heap.size 49 #[.slice p.a1 t_.hs.length p.c1, .slice p.a2 t_.ts.length p.c2, .slice p.a3 t_.ns.length p.c3, .int .i64 t_.r, .int .i64 t_.hd, .slice p.a4 t_.ac.length p.c4, .int .i64 t_.rt, .int .i64 t_.tm, .int .i64 t_.ls, .int .i64 t_.cm] := by subst hw0; exact (Blk.new _ _ _).alloc _
 have KR : Blk w0 (w.heap.size + 1) 63 #[.int .i64 0, .int .i64 0, .int .i64 0, .int .i64 0, .int .i64 0, .int .i64 0, .slice none 0 0, .int .i64 0, .int .i64 0] := by
  subst hw0; have := Blk.new (w.alloc (.cells #[.slice p.a1 t_.hs.length p.c1, .slice p.a2 t_.ts.length p.c2, .slice p.a3 t_.ns.length p.c3, .int .i64 t_.r, .int .i64 t_.hd, .slice p.a4 t_.ac.length p.c4, .int .i64 t_.rt, .int .i64 t_.tm, .int .i64 t_.ls, .int .i64 t_.cm] 49)) 63 #[.int .i64 0, .int .i64 0, .int .i64 0, .int .i64 0, .int .i64 0, .int .i64 0, .slice none 0 0, .int .i64 0, .int .i64 0]; rw [World.size_alloc] at this; exact this
 have R0 : Rd w0 b P := by subst hw0; exact rd_alloc (rd_alloc h hb _) (by rw [World.size_alloc]; omega) _
 have G : w.grownBy w0 (some b) := by subst hw0; exact g_alloc (g_alloc (g_of (Below.refl _ _) _) _) _
 have HW0 := Lib.hid hw0; clear h hw0; change Calls _ _ #[_, .agg #[.slice p.a1 t_.hs.length p.c1, .slice p.a2 t_.ts.length p.c2, .slice p.a3 t_.ns.length p.c3, .int .i64 t_.r, .int .i64 t_.hd, .slice p.a4 t_.ac.length p.c4, .int .i64 t_.rt, .int .i64 t_.tm, .int .i64 t_.ls, .int .i64 t_.cm]] _ _; go_enter Try.func93, Try.ntmps93
 go_upto_region 1 with fail
 rw [← HW0.out]; go_wp2_with fail; refine (jx2 b _ 10 _ R0 (by omega)).mono ?_; rintro e U ⟨t, rfl, ht, hR, hGn⟩; replace KT := jqj KT hGn neT; replace KR := jqj KR hGn neR; replace G := jqe G hGn; clear hGn HW0 R0
 by_cases t0 : t = 0
 ·clear ht
  have e0 : ((t : Int) == 0) = true := by simp; omega
  obtain ⟨qT0, qT1, qT2, qT3, qT4, qT5, qT6, qT7, qT8, qT9⟩ := jq0 KT; go_wp2_with fail; refine (someDd b _ p.a1 p.c1 base t_.hs _ hR (by omega) (Nat.lt_of_lt_of_le hb G.size) (jj9 hO.is.h1 hO.abv.1 hbb G) hO.n1 hO.abv.1 hbb).mono ?_; rintro e V ⟨A, cz, ⟨dk, o, tt, n, d, zs⟩, rfl, z4, zc, zI, zab, hRn, hGn⟩; dsimp only at z4 zc zI zab ⊢; have lR := KR.lt; replace lR : w.heap.size + 1 < U.heap.size := lR; clear qT0 qT1 qT2 qT3 qT4 qT5 qT6 qT7 qT8 qT9; replace KT := jqj KT hGn neT; replace KR := jqj KR hGn neR; replace G := jqe G hGn; have hbn := Nat.lt_of_lt_of_le hb G.size; clear hGn hR; have hR := hRn; clear hRn
  have HZ : Hid (zs.length ≤ 4 ∧ zs.length ≤ cz ∧ jqf V A zs ∧ ∀ ad, A = some ad → U.heap.size ≤ ad.block) := ⟨z4, zc, zI, zab⟩
  clear z4 zc zI zab; have HK := Lib.hid KR; have HG := Lib.hid (And.intro (jxa (P' := P + 80) hR (by omega)) G); clear KR KT hR G
  obtain ⟨y1, hy⟩ : ∃ Y_, Y_ = jzd V (w.heap.size + 1) (.int .i64 0) (.int .i64 dk) (.int .i64 o) (.int .i64 tt) (.int .i64 n) (.int .i64 d) (.slice A zs.length cz) (.int .i64 0) (.int .i64 0) := ⟨_, rfl⟩
  have KF := jq7 (v0 := .int .i64 0) (v1 := .int .i64 dk) (v2 := .int .i64 o) (v3 := .int .i64 tt) (v4 := .int .i64 n) (v5 := .int .i64 d) (v6 := .slice A zs.length cz) (v7 := .int .i64 0) (v8 := .int .i64 0) HK.out; rw [← hy] at KF; obtain ⟨z0, z1, z2, z3, z4, z5, z6, z7, z8⟩ := jq4 KF; have HF := Lib.hid (show Rd y1 b (P + 80) ∧ w.grownBy y1 (some b) by subst hy; exact jj4 (g := 0) HG.out.1 hb HG.out.2 (jj1 (Nat.le_succ _) _ _ _ _ _ _ _ _ _)); have HZF := Lib.hid (show jqf y1 A zs by subst hy; exact jj2 HZ.out.2.2.1 HZ.out.2.2.2 lR (fun g hn => jq3 hn _ _ _ _ _ _ _ _ _)); have HY := Lib.hid hy; clear KF hy
  go_wp2_with (first | (show wpList _ _ _ ({ dst := _, op := Op.store _ _ _, type := _, pos := _, after := _, guard := _ } :: _) _ _; refine jq5 rfl _ _ _ rfl (w.heap.size + 1) (.int .i64 0) (.int .i64 dk) (.int .i64 o) (.int .i64 tt) (.int .i64 n) (.int .i64 d) (.slice A zs.length cz) (.int .i64 0) (.int .i64 0) rfl rfl HK.out (by kernel_rfl) rfl ?_; rw [← HY.out]))
  refine bodyPost_ret (v := .agg #[.int .i64 0, .int .i64 dk, .int .i64 o, .int .i64 tt, .int .i64 n, .int .i64 d, .slice A zs.length cz, .int .i64 0, .int .i64 0]) (by simp [results, Try.results93, go_sem, z0, z1, z2, z3, z4, z5, z6, z7, z8]) rfl ⟨A, cz, ⟨0, ⟨dk, o, tt, n, d, zs⟩, 0, 0⟩, rfl, HZ.out.1, HZ.out.2.1, HZF.out, (fun ad e => Nat.le_trans (by omega) (HZ.out.2.2.2 ad e)), HF.out.1, HF.out.2⟩
 by_cases t1 : t = 1
 ·skip
  have e0 : ((t : Int) == 0) = false := by simp; omega
  have e1 : ((t : Int) == 1) = true := by simp; omega
  obtain ⟨qT0, qT1, qT2, qT3, qT4, qT5, qT6, qT7, qT8, qT9⟩ := jq0 KT; go_wp2_with fail; refine (someDd b _ p.a1 p.c1 base t_.hs _ hR (by omega) (Nat.lt_of_lt_of_le hb G.size) (jj9 hO.is.h1 hO.abv.1 hbb G) hO.n1 hO.abv.1 hbb).mono ?_; rintro e V ⟨A, cz, ⟨dk, o, tt, n, d, zs⟩, rfl, z4, zc, zI, zab, hRn, hGn⟩; dsimp only at z4 zc zI zab ⊢; have lR := KR.lt; replace lR : w.heap.size + 1 < U.heap.size := lR; clear qT0 qT1 qT2 qT3 qT4 qT5 qT6 qT7 qT8 qT9; replace KT := jqj KT hGn neT; replace KR := jqj KR hGn neR; replace G := jqe G hGn; have hbn := Nat.lt_of_lt_of_le hb G.size; clear hGn hR; have hR := hRn; clear hRn
  have HZ : Hid (zs.length ≤ 4 ∧ zs.length ≤ cz ∧ jqf V A zs ∧ ∀ ad, A = some ad → U.heap.size ≤ ad.block) := ⟨z4, zc, zI, zab⟩
  clear z4 zc zI zab; have HK := Lib.hid KR; have HG := Lib.hid (And.intro (jxa (P' := P + 80) hR (by omega)) G); clear KR KT hR G
  obtain ⟨y1, hy⟩ : ∃ Y_, Y_ = jzd V (w.heap.size + 1) (.int .i64 0) (.int .i64 dk) (.int .i64 o) (.int .i64 tt) (.int .i64 n) (.int .i64 d) (.slice A zs.length cz) (.int .i64 0) (.int .i64 0) := ⟨_, rfl⟩
  have KF := jq7 (v0 := .int .i64 0) (v1 := .int .i64 dk) (v2 := .int .i64 o) (v3 := .int .i64 tt) (v4 := .int .i64 n) (v5 := .int .i64 d) (v6 := .slice A zs.length cz) (v7 := .int .i64 0) (v8 := .int .i64 0) HK.out; rw [← hy] at KF; obtain ⟨z0, z1, z2, z3, z4, z5, z6, z7, z8⟩ := jq4 KF; have HF := Lib.hid (show Rd y1 b (P + 80) ∧ w.grownBy y1 (some b) by subst hy; exact jj4 (g := 0) HG.out.1 hb HG.out.2 (jj1 (Nat.le_succ _) _ _ _ _ _ _ _ _ _)); have HZF := Lib.hid (show jqf y1 A zs by subst hy; exact jj2 HZ.out.2.2.1 HZ.out.2.2.2 lR (fun g hn => jq3 hn _ _ _ _ _ _ _ _ _)); have HY := Lib.hid hy; clear KF hy
  go_wp2_with (first | (show wpList _ _ _ ({ dst := _, op := Op.store _ _ _, type := _, pos := _, after := _, guard := _ } :: _) _ _; refine jq5 rfl _ _ _ rfl (w.heap.size + 1) (.int .i64 0) (.int .i64 dk) (.int .i64 o) (.int .i64 tt) (.int .i64 n) (.int .i64 d) (.slice A zs.length cz) (.int .i64 0) (.int .i64 0) rfl rfl HK.out (by kernel_rfl) rfl ?_; rw [← HY.out]))
  refine bodyPost_ret (v := .agg #[.int .i64 0, .int .i64 dk, .int .i64 o, .int .i64 tt, .int .i64 n, .int .i64 d, .slice A zs.length cz, .int .i64 0, .int .i64 0]) (by simp [results, Try.results93, go_sem, z0, z1, z2, z3, z4, z5, z6, z7, z8]) rfl ⟨A, cz, ⟨0, ⟨dk, o, tt, n, d, zs⟩, 0, 0⟩, rfl, HZ.out.1, HZ.out.2.1, HZF.out, (fun ad e => Nat.le_trans (by omega) (HZ.out.2.2.2 ad e)), HF.out.1, HF.out.2⟩
 by_cases t2 : t = 2
 ·skip
  have e0 : ((t : Int) == 0) = false := by simp; omega
  have e1 : ((t : Int) == 1) = false := by simp; omega
  have e2 : ((t : Int) == 2) = true := by simp; omega
  clear ht; go_wp2_with fail; refine (jv4 b 4 _ (7) 48 [24, 48, 30, 7] _ U hR (by omega) (Nat.lt_of_lt_of_le hb G.size) rfl (by omega) (by omega) (by simp)).mono ?_; rintro e V ⟨z, rfl, z0, z1, hRn, hGn⟩; replace KT := jqj KT hGn neT; replace KR := jqj KR hGn neR; replace G := jqe G hGn; have hbn := Nat.lt_of_lt_of_le hb G.size; clear hGn hR; have hR := hRn; clear hRn; clear z0 z1; have HK := Lib.hid KR; have HG := Lib.hid (And.intro (jxa (P' := P + 80) hR (by omega)) G); clear KR KT hR G
  obtain ⟨y1, hy⟩ : ∃ Y_, Y_ = jzd V (w.heap.size + 1) (.int .i64 1) (.int .i64 0) (.int .i64 0) (.int .i64 0) (.int .i64 0) (.int .i64 0) (.slice none 0 0) (.int .i64 0) (.int .i64 z) := ⟨_, rfl⟩
  have KF := jq7 (v0 := .int .i64 1) (v1 := .int .i64 0) (v2 := .int .i64 0) (v3 := .int .i64 0) (v4 := .int .i64 0) (v5 := .int .i64 0) (v6 := .slice none 0 0) (v7 := .int .i64 0) (v8 := .int .i64 z) HK.out; rw [← hy] at KF; obtain ⟨z0, z1, z2, z3, z4, z5, z6, z7, z8⟩ := jq4 KF; have HF := Lib.hid (show Rd y1 b (P + 80) ∧ w.grownBy y1 (some b) by subst hy; exact jj4 (g := 0) HG.out.1 hb HG.out.2 (jj1 (Nat.le_succ _) _ _ _ _ _ _ _ _ _)); have HY := Lib.hid hy; clear KF hy
  go_wp2_with (first | (show wpList _ _ _ ({ dst := _, op := Op.store _ _ _, type := _, pos := _, after := _, guard := _ } :: _) _ _; refine jq5 rfl _ _ _ rfl (w.heap.size + 1) (.int .i64 1) (.int .i64 0) (.int .i64 0) (.int .i64 0) (.int .i64 0) (.int .i64 0) (.slice none 0 0) (.int .i64 0) (.int .i64 z) rfl rfl HK.out (by kernel_rfl) rfl ?_; rw [← HY.out]))
  refine bodyPost_ret (v := .agg #[.int .i64 1, .int .i64 0, .int .i64 0, .int .i64 0, .int .i64 0, .int .i64 0, .slice none 0 0, .int .i64 0, .int .i64 z]) (by simp [results, Try.results93, go_sem, z0, z1, z2, z3, z4, z5, z6, z7, z8]) rfl ⟨none, 0, ⟨1, dd0, 0, z⟩, rfl, (Nat.zero_le _), (Nat.zero_le _), .inl rfl, (fun ad e => by cases e), HF.out.1, HF.out.2⟩
 by_cases t3 : t = 3
 ·skip
  have e0 : ((t : Int) == 0) = false := by simp; omega
  have e1 : ((t : Int) == 1) = false := by simp; omega
  have e2 : ((t : Int) == 2) = false := by simp; omega
  have e3 : ((t : Int) == 3) = true := by simp; omega
  have qt := KT.cell 1; have ltT := KT.lt; have RU : Hid (Rd U.drew b (P + 1)) := jz3 hR (Nat.lt_of_lt_of_le hb G.size) (Below.refl _ _).drew; have GU := Lib.hid G; have KRU := Lib.hid (fun (V : World) (hV : U.grownBy V (some b)) => jqj KR hV neR); have MK := Lib.hid (fun (V : World) (hV : U.grownBy V (some b)) => (⟨(g_cell hV (o := 1) ltT neT).trans qt, jqe G hV⟩ : V.cell? ⟨w.heap.size, 1, none⟩ = some (.slice p.a2 t_.ts.length p.c2) ∧ w.grownBy V (some b)))
  have n0 : (0 : Int) ≤ (t_.ts.length : Int) := by omega
  have n1 : IntKind.i64.wrap ((t_.ts.length : Int) + 1) = (t_.ts.length : Int) + 1 := by rw [IntKind.wrap_i64]; have := hO.n2; omega
  clear hR G KR KT qt ht; go_wp2_with fail; refine wp_region_held_drew (S := (fun w' => w'.cell? ⟨w.heap.size, 1, none⟩ = some (.slice p.a2 t_.ts.length p.c2) ∧ w.grownBy w' (some b))) (by kernel_rfl) ?_ (fun hHeld => ?_)
  ·exact MK.out _ (g_of (Below.refl _ _).drew _)
  refine tk (i := 0) (v := ?v23) rfl ?c23 ?d_23
  case c23 => (refine .inl ⟨by rfl, ?_⟩; intro w h; (try dsimp only at h); go_simp <;> with_reducible rfl)
  try simp only [pt]
  refine tk (i := 1) (v := ?v24) rfl ?c24 ?d_24
  case c24 => (refine .inl ⟨by rfl, ?_⟩; intro w h; (try dsimp only at h); go_simp <;> with_reducible rfl)
  try simp only [pt]
  refine tk (i := 2) (v := ?v25) rfl ?c25 ?d_25
  case c25 => (refine .inl ⟨by rfl, ?_⟩; intro w h; (try dsimp only at h); go_simp <;> with_reducible rfl)
  try simp only [pt]
  refine tk (i := 3) (v := ?v26) rfl ?c26 ?d_26
  case c26 => (refine .inl ⟨by rfl, ?_⟩; intro w h; (try dsimp only at h); go_simp <;> with_reducible rfl)
  try simp only [pt]
  refine tk (i := 4) (v := ?v27) rfl ?c27 ?d_27
  case c27 => (refine .inl ⟨by rfl, ?_⟩; intro w h; (try dsimp only at h); go_simp <;> with_reducible rfl)
  try simp only [pt]
  refine tk (i := 6) (v := ?v28) rfl ?c28 ?d_28
  case c28 => (refine .inl ⟨by rfl, ?_⟩; intro w h; (try dsimp only at h); go_simp <;> with_reducible rfl)
  try simp only [pt]
  refine tk (i := 7) (v := ?v29) rfl ?c29 ?d_29
  case c29 => (refine .inl ⟨by rfl, ?_⟩; intro w h; (try dsimp only at h); go_simp <;> with_reducible rfl)
  try simp only [pt]
  refine tk (i := 8) (v := ?v2a) rfl ?c2a ?d_2a
  case c2a => (refine .inl ⟨by rfl, ?_⟩; intro w h; (try dsimp only at h); go_simp <;> with_reducible rfl)
  try simp only [pt]
  refine tk (i := 9) (v := ?v2b) rfl ?c2b ?d_2b
  case c2b => (refine .inl ⟨by rfl, ?_⟩; intro w h; (try dsimp only at h); go_simp <;> with_reducible rfl)
  try simp only [pt]
  refine tk (i := 10) (v := ?v2c) rfl ?c2c ?d_2c
  case c2c => (refine .inl ⟨by rfl, ?_⟩; intro w h; (try dsimp only at h); go_simp <;> with_reducible rfl)
  try simp only [pt]
  refine wpAnyH_ready (rs := [5]) (by kernel_rfl) (by simp) (AllReadyH.cons (o := ?oot11) ?hit11 (fun K hK => ?hkt11) AllReadyH.nil)
  rotate_left
  case hit11 => (simp only [List.getElem?_toArray, List.getElem?_cons_succ, List.getElem?_cons_zero]; rfl)
  (rw [if_pos (by rfl)]; go_simp; refine (jx2 b _ _ _ RU.out (by omega)).mono ?_; rintro e V ⟨q, rfl, hq, hRV, hGV⟩; have gV := jqe (g_of (Below.refl U.heap.size U).drew (some b)) hGV; have KK := MK.out _ gV; go_wp2_with fail; refine hK.out _ _ (KK) (fun hHeld => ?_); clear hK K)
  try simp only [pt]
  refine wpAnyH_ready (rs := [11]) (by kernel_rfl) (by simp) (AllReadyH.cons (o := ?oot12) ?hit12 (fun K hK => ?hkt12) AllReadyH.nil)
  rotate_left
  case hit12 => (simp only [List.getElem?_toArray, List.getElem?_cons_succ, List.getElem?_cons_zero]; rfl)
  (rw [if_pos (by rfl)]; go_simp; refine (jx2 b _ _ _ hRV (by omega)).mono ?_; rintro e V2 ⟨r, rfl, hr, hRV2, hGV2⟩; have gV2 := jqe gV hGV2; have KRV := Lib.hid (KRU.out _ gV2); have HG := Lib.hid (And.intro (jxa (P' := P + 80) hRV2 (by omega)) (jqe GU.out gV2)); have KK := MK.out _ gV2; go_wp2_with fail; refine hK.out _ _ (KK) (fun hHeld => ?_); clear hK K)
  try simp only [pt]
  refine tk (i := 12) (v := ?v2d) rfl ?c2d ?d_2d
  case c2d => (refine .inl ⟨by rfl, ?_⟩; intro w h; (try dsimp only at h); go_simp <;> with_reducible rfl)
  try simp only [pt]
  refine wpAnyH_ready (rs := [13]) (by kernel_rfl) (by simp) (AllReadyH.cons (o := ?oot14) ?hit14 (fun K hK => ?hkt14) AllReadyH.nil)
  rotate_left
  case hit14 => (simp only [List.getElem?_toArray, List.getElem?_cons_succ, List.getElem?_cons_zero]; rfl)
  (rw [if_pos (by rfl)]; obtain ⟨fc0, fc1, fc2, fc3, fc4, fc5, fc6, fc7, fc8⟩ := jq4 KRV.out; obtain ⟨ff0, ff1, ff2, ff3, ff4, ff5, ff6, ff7, ff8⟩ := fzs9 KRV.out; go_simp; obtain ⟨y1, hy⟩ : ∃ Y_, Y_ = jzd V2 (w.heap.size + 1) (.int .i64 2) (.int .i64 0) (.int .i64 0) (.int .i64 0) (.int .i64 0) (.int .i64 0) (.slice none 0 0) (.int .i64 (q : Int)) (.int .i64 (r : Int)) := ⟨_, rfl⟩; change K _ (jzd _ _ _ _ _ _ _ _ _ _ _); rw [← hy]; have KF := jq7 (v0 := .int .i64 2) (v1 := .int .i64 0) (v2 := .int .i64 0) (v3 := .int .i64 0) (v4 := .int .i64 0) (v5 := .int .i64 0) (v6 := .slice none 0 0) (v7 := .int .i64 (q : Int)) (v8 := .int .i64 (r : Int)) KRV.out; rw [← hy] at KF; have HF := Lib.hid (show Rd y1 b (P + 80) ∧ w.grownBy y1 (some b) by subst hy; exact jj4 (g := 0) HG.out.1 hb HG.out.2 (jj1 (Nat.le_succ _) _ _ _ _ _ _ _ _ _)); have KK : y1.cell? ⟨w.heap.size, 1, none⟩ = some (.slice p.a2 t_.ts.length p.c2) ∧ w.grownBy y1 (some b) := ⟨(World.cell?_of_block (by subst hy; exact jq3 (Nat.ne_of_lt (Nat.lt_succ_self _)) _ _ _ _ _ _ _ _ _)).trans hHeld.1, HF.out.2⟩; clear hy fc0 ff0 fc1 ff1 fc2 ff2 fc3 ff3 fc4 ff4 fc5 ff5 fc6 ff6 fc7 ff7 fc8 ff8; refine hK.out _ _ (KK) (fun hHeld => ?_); clear hK K)
  try simp only [pt]
  refine wpAnyH_done (by kernel_rfl) ?_ _; obtain ⟨z0, z1, z2, z3, z4, z5, z6, z7, z8⟩ := jq4 KF; clear KF KK hHeld gV hRV hGV KRV HG gV2 hRV2 hGV2; go_wp2_with fail; refine bodyPost_ret (v := .agg #[.int .i64 2, .int .i64 0, .int .i64 0, .int .i64 0, .int .i64 0, .int .i64 0, .slice none 0 0, .int .i64 (q : Int), .int .i64 (r : Int)]) (by simp [results, Try.results93, go_sem, z0, z1, z2, z3, z4, z5, z6, z7, z8]) rfl ⟨none, 0, ⟨2, dd0, (q : Int), (r : Int)⟩, rfl, (Nat.zero_le _), (Nat.zero_le _), .inl rfl, (fun ad e => by cases e), HF.out.1, HF.out.2⟩
 by_cases t4 : t = 4
 ·skip
  have e0 : ((t : Int) == 0) = false := by simp; omega
  have e1 : ((t : Int) == 1) = false := by simp; omega
  have e2 : ((t : Int) == 2) = false := by simp; omega
  have e3 : ((t : Int) == 3) = false := by simp; omega
  have e4 : ((t : Int) == 4) = true := by simp; omega
  obtain ⟨qT0, qT1, qT2, qT3, qT4, qT5, qT6, qT7, qT8, qT9⟩ := jq0 KT; go_wp2_with fail; clear qT0 qT1 qT2 qT3 qT4 qT5 qT6 qT7 qT8 qT9; refine (jx2 b _ _ _ hR (by omega)).mono ?_; rintro e V ⟨q, rfl, hq, hRn, hGn⟩; replace KT := jqj KT hGn neT; replace KR := jqj KR hGn neR; replace G := jqe G hGn; have hbn := Nat.lt_of_lt_of_le hb G.size; clear hGn hR; have hR := hRn; clear hRn; clear ht; go_wp2_with fail; refine (jv4 b 3 _ (0) 5 [0, 1, 5] _ V hR (by omega) (Nat.lt_of_lt_of_le hb G.size) rfl (by omega) (by omega) (by simp)).mono ?_; rintro e V2 ⟨z, rfl, z0, z1, hRn, hGn⟩; replace KT := jqj KT hGn neT; replace KR := jqj KR hGn neR; replace G := jqe G hGn; have hbn := Nat.lt_of_lt_of_le hb G.size; clear hGn hR; have hR := hRn; clear hRn; clear z0 z1; have HK := Lib.hid KR; have HG := Lib.hid (And.intro (jxa (P' := P + 80) hR (by omega)) G); clear KR KT hR G
  obtain ⟨y1, hy⟩ : ∃ Y_, Y_ = jzd V2 (w.heap.size + 1) (.int .i64 3) (.int .i64 0) (.int .i64 0) (.int .i64 0) (.int .i64 0) (.int .i64 0) (.slice none 0 0) (.int .i64 (q : Int)) (.int .i64 z) := ⟨_, rfl⟩
  have KF := jq7 (v0 := .int .i64 3) (v1 := .int .i64 0) (v2 := .int .i64 0) (v3 := .int .i64 0) (v4 := .int .i64 0) (v5 := .int .i64 0) (v6 := .slice none 0 0) (v7 := .int .i64 (q : Int)) (v8 := .int .i64 z) HK.out; rw [← hy] at KF; obtain ⟨z0, z1, z2, z3, z4, z5, z6, z7, z8⟩ := jq4 KF; have HF := Lib.hid (show Rd y1 b (P + 80) ∧ w.grownBy y1 (some b) by subst hy; exact jj4 (g := 0) HG.out.1 hb HG.out.2 (jj1 (Nat.le_succ _) _ _ _ _ _ _ _ _ _)); have HY := Lib.hid hy; clear KF hy
  go_wp2_with (first | (show wpList _ _ _ ({ dst := _, op := Op.store _ _ _, type := _, pos := _, after := _, guard := _ } :: _) _ _; refine jq5 rfl _ _ _ rfl (w.heap.size + 1) (.int .i64 3) (.int .i64 0) (.int .i64 0) (.int .i64 0) (.int .i64 0) (.int .i64 0) (.slice none 0 0) (.int .i64 (q : Int)) (.int .i64 z) rfl rfl HK.out (by kernel_rfl) rfl ?_; rw [← HY.out]))
  refine bodyPost_ret (v := .agg #[.int .i64 3, .int .i64 0, .int .i64 0, .int .i64 0, .int .i64 0, .int .i64 0, .slice none 0 0, .int .i64 (q : Int), .int .i64 z]) (by simp [results, Try.results93, go_sem, z0, z1, z2, z3, z4, z5, z6, z7, z8]) rfl ⟨none, 0, ⟨3, dd0, (q : Int), z⟩, rfl, (Nat.zero_le _), (Nat.zero_le _), .inl rfl, (fun ad e => by cases e), HF.out.1, HF.out.2⟩
 by_cases t5 : t = 5
 ·skip
  have e0 : ((t : Int) == 0) = false := by simp; omega
  have e1 : ((t : Int) == 1) = false := by simp; omega
  have e2 : ((t : Int) == 2) = false := by simp; omega
  have e3 : ((t : Int) == 3) = false := by simp; omega
  have e4 : ((t : Int) == 4) = false := by simp; omega
  have e5 : ((t : Int) == 5) = true := by simp; omega
  obtain ⟨qT0, qT1, qT2, qT3, qT4, qT5, qT6, qT7, qT8, qT9⟩ := jq0 KT; go_wp2_with fail; clear qT0 qT1 qT2 qT3 qT4 qT5 qT6 qT7 qT8 qT9; refine (jx2 b _ _ _ hR (by omega)).mono ?_; rintro e V ⟨q, rfl, hq, hRn, hGn⟩; replace KT := jqj KT hGn neT; replace KR := jqj KR hGn neR; replace G := jqe G hGn; have hbn := Nat.lt_of_lt_of_le hb G.size; clear hGn hR; have hR := hRn; clear hRn; clear ht; go_wp2_with fail; refine (jv4 b 3 _ (1) 3 [1, 2, 3] _ V hR (by omega) (Nat.lt_of_lt_of_le hb G.size) rfl (by omega) (by omega) (by simp)).mono ?_; rintro e V2 ⟨z, rfl, z0, z1, hRn, hGn⟩; replace KT := jqj KT hGn neT; replace KR := jqj KR hGn neR; replace G := jqe G hGn; have hbn := Nat.lt_of_lt_of_le hb G.size; clear hGn hR; have hR := hRn; clear hRn; clear z0 z1; have HK := Lib.hid KR; have HG := Lib.hid (And.intro (jxa (P' := P + 80) hR (by omega)) G); clear KR KT hR G
  obtain ⟨y1, hy⟩ : ∃ Y_, Y_ = jzd V2 (w.heap.size + 1) (.int .i64 4) (.int .i64 0) (.int .i64 0) (.int .i64 0) (.int .i64 0) (.int .i64 0) (.slice none 0 0) (.int .i64 (q : Int)) (.int .i64 z) := ⟨_, rfl⟩
  have KF := jq7 (v0 := .int .i64 4) (v1 := .int .i64 0) (v2 := .int .i64 0) (v3 := .int .i64 0) (v4 := .int .i64 0) (v5 := .int .i64 0) (v6 := .slice none 0 0) (v7 := .int .i64 (q : Int)) (v8 := .int .i64 z) HK.out; rw [← hy] at KF; obtain ⟨z0, z1, z2, z3, z4, z5, z6, z7, z8⟩ := jq4 KF; have HF := Lib.hid (show Rd y1 b (P + 80) ∧ w.grownBy y1 (some b) by subst hy; exact jj4 (g := 0) HG.out.1 hb HG.out.2 (jj1 (Nat.le_succ _) _ _ _ _ _ _ _ _ _)); have HY := Lib.hid hy; clear KF hy
  go_wp2_with (first | (show wpList _ _ _ ({ dst := _, op := Op.store _ _ _, type := _, pos := _, after := _, guard := _ } :: _) _ _; refine jq5 rfl _ _ _ rfl (w.heap.size + 1) (.int .i64 4) (.int .i64 0) (.int .i64 0) (.int .i64 0) (.int .i64 0) (.int .i64 0) (.slice none 0 0) (.int .i64 (q : Int)) (.int .i64 z) rfl rfl HK.out (by kernel_rfl) rfl ?_; rw [← HY.out]))
  refine bodyPost_ret (v := .agg #[.int .i64 4, .int .i64 0, .int .i64 0, .int .i64 0, .int .i64 0, .int .i64 0, .slice none 0 0, .int .i64 (q : Int), .int .i64 z]) (by simp [results, Try.results93, go_sem, z0, z1, z2, z3, z4, z5, z6, z7, z8]) rfl ⟨none, 0, ⟨4, dd0, (q : Int), z⟩, rfl, (Nat.zero_le _), (Nat.zero_le _), .inl rfl, (fun ad e => by cases e), HF.out.1, HF.out.2⟩
 have e0 : ((t : Int) == 0) = false := by simp; omega
 have e1 : ((t : Int) == 1) = false := by simp; omega
 have e2 : ((t : Int) == 2) = false := by simp; omega
 have e3 : ((t : Int) == 3) = false := by simp; omega
 have e4 : ((t : Int) == 4) = false := by simp; omega
 have e5 : ((t : Int) == 5) = false := by simp; omega
 go_wp2_with fail; refine (jx2 b _ 60 _ hR (by omega)).mono ?_; rintro e V ⟨q, rfl, hq, hRn, hGn⟩; replace KT := jqj KT hGn neT; replace KR := jqj KR hGn neR; replace G := jqe G hGn; have hbn := Nat.lt_of_lt_of_le hb G.size; clear hGn hR; have hR := hRn; clear hRn
 have hq2 : (q : Int) ≤ 100 := by omega
 clear ht hq; go_wp2_with fail; refine (jv4 b 6 _ (0) 100 [20, 40, 10, 0, 100, (q : Int)] _ V hR (by omega) (Nat.lt_of_lt_of_le hb G.size) rfl (by omega) (by omega) (by simp; omega)).mono ?_; rintro e V2 ⟨z, rfl, z0, z1, hRn, hGn⟩; replace KT := jqj KT hGn neT; replace KR := jqj KR hGn neR; replace G := jqe G hGn; have hbn := Nat.lt_of_lt_of_le hb G.size; clear hGn hR; have hR := hRn; clear hRn; clear z0 z1; have HK := Lib.hid KR; have HG := Lib.hid (And.intro (jxa (P' := P + 80) hR (by omega)) G); clear KR KT hR G
 obtain ⟨y1, hy⟩ : ∃ Y_, Y_ = jzd V2 (w.heap.size + 1) (.int .i64 5) (.int .i64 0) (.int .i64 0) (.int .i64 0) (.int .i64 0) (.int .i64 0) (.slice none 0 0) (.int .i64 0) (.int .i64 z) := ⟨_, rfl⟩
 have KF := jq7 (v0 := .int .i64 5) (v1 := .int .i64 0) (v2 := .int .i64 0) (v3 := .int .i64 0) (v4 := .int .i64 0) (v5 := .int .i64 0) (v6 := .slice none 0 0) (v7 := .int .i64 0) (v8 := .int .i64 z) HK.out; rw [← hy] at KF; obtain ⟨z0, z1, z2, z3, z4, z5, z6, z7, z8⟩ := jq4 KF; have HF := Lib.hid (show Rd y1 b (P + 80) ∧ w.grownBy y1 (some b) by subst hy; exact jj4 (g := 0) HG.out.1 hb HG.out.2 (jj1 (Nat.le_succ _) _ _ _ _ _ _ _ _ _)); have HY := Lib.hid hy; clear KF hy
 go_wp2_with (first | (show wpList _ _ _ ({ dst := _, op := Op.store _ _ _, type := _, pos := _, after := _, guard := _ } :: _) _ _; refine jq5 rfl _ _ _ rfl (w.heap.size + 1) (.int .i64 5) (.int .i64 0) (.int .i64 0) (.int .i64 0) (.int .i64 0) (.int .i64 0) (.slice none 0 0) (.int .i64 0) (.int .i64 z) rfl rfl HK.out (by kernel_rfl) rfl ?_; rw [← HY.out]))
 refine bodyPost_ret (v := .agg #[.int .i64 5, .int .i64 0, .int .i64 0, .int .i64 0, .int .i64 0, .int .i64 0, .slice none 0 0, .int .i64 0, .int .i64 z]) (by simp [results, Try.results93, go_sem, z0, z1, z2, z3, z4, z5, z6, z7, z8]) rfl ⟨none, 0, ⟨5, dd0, 0, z⟩, rfl, (Nat.zero_le _), (Nat.zero_le _), .inl rfl, (fun ad e => by cases e), HF.out.1, HF.out.2⟩
end Go.Proofs.Ytaehemmjemhgpaa
