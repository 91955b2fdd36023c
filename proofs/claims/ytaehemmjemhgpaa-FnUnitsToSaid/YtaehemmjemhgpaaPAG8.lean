/- Contracts and facts of functions of this program, in build order. Conditions: those stated in each. -/
import Derived.Test.YtaehemmjemhgpaaPADrawTa
import Derived.Deep.RegionHeld3
import Derived.Deep.QuietTactic
import Derived.BigQuiet
import Derived.RegionTactic
set_option maxRecDepth 100000
set_option maxHeartbeats 16000000
namespace Go.Proofs.Ytaehemmjemhgpaa
open Go.RowKit
set_option linter.unusedSimpArgs false
set_option linter.unusedVariables false
def DrawnTw (w : World) (e : Ending) (w' : World) : Prop := ∃ (q : TA) (u : Tw), e = .returned (.agg #[.slice q.a1 u.hs.length q.c1, .slice q.a2 u.ts.length q.c2, .slice q.a3 u.ns.length q.c3, .int .i64 u.r, .int .i64 u.hd, .slice q.a4 u.ac.length q.c4, .int .i64 u.rt, .int .i64 u.tm, .int .i64 u.ls, .int .i64 u.cm]) ∧ IsTw w' q u ∧ Below w.heap.size w w'
theorem drawVTw (a : Option Addr) (len cap : Nat) (zs : List Int) (w : World) (h : IsRow .u8 w a len cap zs) :
    Calls Try.prog 26 #[.slice a len cap] w (DrawnTw w) := by
  obtain ⟨w0, hw0⟩ : ∃ y, y = w.alloc (.cells #[.slice none 0 0, .slice none 0 0, .slice none 0 0, .int .i64 0, .int .i64 0, .slice none 0 0, .int .i64 0, .int .i64 0, .int .i64 0, .int .i64 0] 49) := ⟨_, rfl⟩
  have B0 : Below w.heap.size w w0 := by subst hw0; go_grown
  have KR : Blk w0 w.heap.size 49 #[.slice none 0 0, .slice none 0 0, .slice none 0 0, .int .i64 0, .int .i64 0, .slice none 0 0, .int .i64 0, .int .i64 0, .int .i64 0, .int .i64 0] := by subst hw0; exact Blk.new _ _ _
  have h0 := row_below h B0
  have HW0 := Lib.hid hw0
  clear h hw0
  go_enter Try.func26, Try.ntmps26
  go_upto_region 1 with fail
  rw [← HW0.out]
  go_wp2_with fail
  refine (newReader_any a len cap zs w0 h0).mono ?_
  rintro e W1 ⟨rfl, R1, C, hb1⟩
  have lR := KR.lt
  have lb := B0.size
  replace KR := KR.next C
  have B1 : Below w.heap.size w W1 := B0.trans (C.mono B0.size)
  generalize w0.heap.size = b at *
  have neR : w.heap.size ≠ b := by omega
  clear B0 C h0 HW0
  go_wp2_with fail
  refine (anyTw b _ W1 R1 (by omega) hb1).mono ?_
  rintro e V ⟨q, u, rfl, hO, R2, hG⟩
  have HK := Lib.hid (blk_gr KR hG neR)
  have B2 := B1.grown hG B1.size (fun q_ hq => by injection hq with hq; omega)
  have HB := Lib.hid B2
  have HO := Lib.hid hO
  clear hO R2 hG KR R1 B1 B2
  obtain ⟨y1, hy⟩ : ∃ Y_, Y_ = sets10 V w.heap.size (.slice q.a1 u.hs.length q.c1) (.slice q.a2 u.ts.length q.c2) (.slice q.a3 u.ns.length q.c3) (.int .i64 u.r) (.int .i64 u.hd) (.slice q.a4 u.ac.length q.c4) (.int .i64 u.rt) (.int .i64 u.tm) (.int .i64 u.ls) (.int .i64 u.cm) := ⟨_, rfl⟩
  have KF := sets10_blk (v0 := .slice q.a1 u.hs.length q.c1) (v1 := .slice q.a2 u.ts.length q.c2) (v2 := .slice q.a3 u.ns.length q.c3) (v3 := .int .i64 u.r) (v4 := .int .i64 u.hd) (v5 := .slice q.a4 u.ac.length q.c4) (v6 := .int .i64 u.rt) (v7 := .int .i64 u.tm) (v8 := .int .i64 u.ls) (v9 := .int .i64 u.cm) HK.out
  rw [← hy] at KF
  obtain ⟨z0, z1, z2, z3, z4, z5, z6, z7, z8, z9⟩ := town_cells KF
  have HF := Lib.hid (show Below w.heap.size w y1 by subst hy; exact HB.out.trans (sets10_at (Nat.le_refl _) _ _ _ _ _ _ _ _ _ _))
  have HT := Lib.hid (X10o HO.out HK.out hy)
  have HY := Lib.hid hy
  clear KF hy
  go_wp2_with (first | (show wpList _ _ _ ({ dst := _, op := Op.store _ _ _, type := _, pos := _, after := _, guard := _ } :: _) _ _; refine wpList_store10 rfl _ _ _ rfl w.heap.size (.slice q.a1 u.hs.length q.c1) (.slice q.a2 u.ts.length q.c2) (.slice q.a3 u.ns.length q.c3) (.int .i64 u.r) (.int .i64 u.hd) (.slice q.a4 u.ac.length q.c4) (.int .i64 u.rt) (.int .i64 u.tm) (.int .i64 u.ls) (.int .i64 u.cm) rfl rfl HK.out (by kernel_rfl) rfl ?_; rw [← HY.out]))
  refine bodyPost_ret (v := .agg #[.slice q.a1 u.hs.length q.c1, .slice q.a2 u.ts.length q.c2, .slice q.a3 u.ns.length q.c3, .int .i64 u.r, .int .i64 u.hd, .slice q.a4 u.ac.length q.c4, .int .i64 u.rt, .int .i64 u.tm, .int .i64 u.ls, .int .i64 u.cm]) (by simp [results, Try.results26, go_sem, z0, z1, z2, z3, z4, z5, z6, z7, z8, z9]) rfl ⟨q, u, rfl, HT.out.is, HF.out⟩
def DrawnUt (w : World) (e : Ending) (w' : World) : Prop := ∃ (q : TA) (u : Tw) (z : Int), e = .returned (.tuple #[.agg #[.slice q.a1 u.hs.length q.c1, .slice q.a2 u.ts.length q.c2, .slice q.a3 u.ns.length q.c3, .int .i64 u.r, .int .i64 u.hd, .slice q.a4 u.ac.length q.c4, .int .i64 u.rt, .int .i64 u.tm, .int .i64 u.ls, .int .i64 u.cm], .int .i64 z]) ∧ IsTw w' q u ∧ Below w.heap.size w w'
theorem drawUt (a : Option Addr) (len cap : Nat) (zs : List Int) (w : World) (h : IsRow .u8 w a len cap zs) :
    Calls Try.prog 29 #[.slice a len cap] w (DrawnUt w) := by
  obtain ⟨w0, hw0⟩ : ∃ y, y = w.alloc (.cells #[.slice none 0 0, .slice none 0 0, .slice none 0 0, .int .i64 0, .int .i64 0, .slice none 0 0, .int .i64 0, .int .i64 0, .int .i64 0, .int .i64 0] 49) := ⟨_, rfl⟩
  have B0 : Below w.heap.size w w0 := by subst hw0; go_grown
  have KR : Blk w0 w.heap.size 49 #[.slice none 0 0, .slice none 0 0, .slice none 0 0, .int .i64 0, .int .i64 0, .slice none 0 0, .int .i64 0, .int .i64 0, .int .i64 0, .int .i64 0] := by subst hw0; exact Blk.new _ _ _
  have h0 := row_below h B0
  have HW0 := Lib.hid hw0
  clear h hw0
  go_enter Try.func29, Try.ntmps29
  go_upto_region 1 with fail
  rw [← HW0.out]
  go_wp2_with fail
  refine (newReader_any a len cap zs w0 h0).mono ?_
  rintro e W1 ⟨rfl, R1, C, hb1⟩
  have lR := KR.lt
  have lb := B0.size
  replace KR := KR.next C
  have B1 : Below w.heap.size w W1 := B0.trans (C.mono B0.size)
  generalize w0.heap.size = b at *
  have neR : w.heap.size ≠ b := by omega
  clear B0 C h0 HW0
  go_wp2_with fail
  refine (anyTw b _ W1 R1 (by omega) hb1).mono ?_
  rintro e V ⟨q, u, rfl, hO, R2, hG⟩
  have hbV := Nat.lt_of_lt_of_le hb1 hG.size
  have B2 := B1.grown hG B1.size (fun q_ hq => by injection hq with hq; omega)
  replace KR := blk_gr KR hG neR
  have lV : w.heap.size < V.heap.size := KR.lt
  obtain ⟨U, hU⟩ : ∃ y, y = V.alloc (.cells #[.slice q.a1 u.hs.length q.c1, .slice q.a2 u.ts.length q.c2, .slice q.a3 u.ns.length q.c3, .int .i64 u.r, .int .i64 u.hd, .slice q.a4 u.ac.length q.c4, .int .i64 u.rt, .int .i64 u.tm, .int .i64 u.ls, .int .i64 u.cm] 49) := ⟨_, rfl⟩
  have D4 : Below V.heap.size V U := by subst hU; exact (Below.refl _ _).alloc (Nat.le_refl _) _
  have KB : Blk U V.heap.size 49 #[.slice q.a1 u.hs.length q.c1, .slice q.a2 u.ts.length q.c2, .slice q.a3 u.ns.length q.c3, .int .i64 u.r, .int .i64 u.hd, .slice q.a4 u.ac.length q.c4, .int .i64 u.rt, .int .i64 u.tm, .int .i64 u.ls, .int .i64 u.cm] := by subst hU; exact Blk.new _ _ _
  replace KR := KR.next D4
  have R3 := rd_below R2 hbV D4
  have hbU := Nat.lt_of_lt_of_le hbV D4.size
  have hOU := hO.next D4
  have B3 := B2.trans (D4.mono B2.size)
  have HU := Lib.hid hU
  clear hO R2 hG R1 B1 B2 D4 hU
  go_upto_region 3 with fail
  rw [← HU.out]
  clear HU
  obtain ⟨gS, hgS⟩ : ∃ g, g = V.heap.size := ⟨_, rfl⟩
  rw [← hgS] at KB lV ⊢
  have neSb : gS ≠ b := by omega
  have neS : gS ≠ w.heap.size := by omega
  clear hgS
  have lS := KB.lt
  have KRU := Lib.hid (fun (W : World) (hW : U.grownBy W (some b)) => blk_gr KR hW neR)
  have HTU := Lib.hid (fun (W : World) (hW : U.grownBy W (some b)) => hOU.far hW hb1)
  have HBU := Lib.hid (fun (W : World) (hW : U.grownBy W (some b)) => B3.grown hW B3.size (fun q_ hq => by injection hq with hq; omega))
  obtain ⟨s0_, s1_, s2_, s3_, s4_, s5_, s6_, s7_, s8_, s9_⟩ := town_cells KB
  have MK := Lib.hid (fun (W : World) (hW : U.grownBy W (some b)) => (⟨(g_cell hW (o := 0) lS neSb).trans s0_, (g_cell hW (o := 1) lS neSb).trans s1_, (g_cell hW (o := 2) lS neSb).trans s2_, (g_cell hW (o := 3) lS neSb).trans s3_, (g_cell hW (o := 4) lS neSb).trans s4_, (g_cell hW (o := 5) lS neSb).trans s5_, (g_cell hW (o := 6) lS neSb).trans s6_, (g_cell hW (o := 7) lS neSb).trans s7_, (g_cell hW (o := 8) lS neSb).trans s8_, (g_cell hW (o := 9) lS neSb).trans s9_⟩ : W.cell? ⟨gS, 0, none⟩ = some (.slice q.a1 u.hs.length q.c1) ∧ W.cell? ⟨gS, 1, none⟩ = some (.slice q.a2 u.ts.length q.c2) ∧ W.cell? ⟨gS, 2, none⟩ = some (.slice q.a3 u.ns.length q.c3) ∧ W.cell? ⟨gS, 3, none⟩ = some (.int .i64 u.r) ∧ W.cell? ⟨gS, 4, none⟩ = some (.int .i64 u.hd) ∧ W.cell? ⟨gS, 5, none⟩ = some (.slice q.a4 u.ac.length q.c4) ∧ W.cell? ⟨gS, 6, none⟩ = some (.int .i64 u.rt) ∧ W.cell? ⟨gS, 7, none⟩ = some (.int .i64 u.tm) ∧ W.cell? ⟨gS, 8, none⟩ = some (.int .i64 u.ls) ∧ W.cell? ⟨gS, 9, none⟩ = some (.int .i64 u.cm)))
  clear KB KR hOU B3
  go_wp2_with fail
  refine wp_region_held_drew (S := (fun w' => w'.cell? ⟨gS, 0, none⟩ = some (.slice q.a1 u.hs.length q.c1) ∧ w'.cell? ⟨gS, 1, none⟩ = some (.slice q.a2 u.ts.length q.c2) ∧ w'.cell? ⟨gS, 2, none⟩ = some (.slice q.a3 u.ns.length q.c3) ∧ w'.cell? ⟨gS, 3, none⟩ = some (.int .i64 u.r) ∧ w'.cell? ⟨gS, 4, none⟩ = some (.int .i64 u.hd) ∧ w'.cell? ⟨gS, 5, none⟩ = some (.slice q.a4 u.ac.length q.c4) ∧ w'.cell? ⟨gS, 6, none⟩ = some (.int .i64 u.rt) ∧ w'.cell? ⟨gS, 7, none⟩ = some (.int .i64 u.tm) ∧ w'.cell? ⟨gS, 8, none⟩ = some (.int .i64 u.ls) ∧ w'.cell? ⟨gS, 9, none⟩ = some (.int .i64 u.cm))) (by kernel_rfl) ?_ (fun hHeld => ?_)
  · exact MK.out _ (g_of (Below.refl _ _).drew _)
  refine wpAnyH_take (i := 0) (oi := ?oot1) (v := ?vvt1) ?hit1 (by kernel_rfl) ?h3t1 ?h4t1 ?h5t1 ?h6t1 (by assumption) ?h8t1
  case hit1 => (simp only [List.getElem?_toArray, List.getElem?_cons_succ, List.getElem?_cons_zero]; rfl)
  case h3t1 => kernel_rfl
  case h4t1 => kernel_rfl
  case h6t1 => (refine Or.inl ⟨by rfl, ?_⟩; intro w hSw; (try dsimp only at hSw); (go_simp <;> with_reducible rfl))
  case h5t1 => exact fun _ _ _ h => h
  try simp only [Act.put, List.setIfInBounds_toArray, List.set_cons_zero, List.set_cons_succ]
  refine wpAnyH_take (i := 1) (oi := ?oot2) (v := ?vvt2) ?hit2 (by kernel_rfl) ?h3t2 ?h4t2 ?h5t2 ?h6t2 (by assumption) ?h8t2
  case hit2 => (simp only [List.getElem?_toArray, List.getElem?_cons_succ, List.getElem?_cons_zero]; rfl)
  case h3t2 => kernel_rfl
  case h4t2 => kernel_rfl
  case h6t2 => (refine Or.inl ⟨by rfl, ?_⟩; intro w hSw; (try dsimp only at hSw); (go_simp <;> with_reducible rfl))
  case h5t2 => exact fun _ _ _ h => h
  try simp only [Act.put, List.setIfInBounds_toArray, List.set_cons_zero, List.set_cons_succ]
  refine wpAnyH_ready (rs := [2]) (by kernel_rfl) (by simp) (AllReadyH.cons (o := ?oot3) ?hit3 (fun K hK => ?hkt3) AllReadyH.nil)
  rotate_left
  case hit3 => (simp only [List.getElem?_toArray, List.getElem?_cons_succ, List.getElem?_cons_zero]; rfl)
  (rw [if_pos (by rfl)]; go_simp; have KK := MK.out _ (g_of (((Below.refl _ U).alloc (Nat.le_refl _) (.cells ([1, 2, 3, 4, 0, 999].map (Value.int .i64)).toArray 3)).drew) (some b)); refine hK.out _ _ (KK) (fun hHeld => ?_); clear hK K)
  try simp only [Act.put, List.setIfInBounds_toArray, List.set_cons_zero, List.set_cons_succ]
  refine wpAnyH_ready (rs := [3]) (by kernel_rfl) (by simp) (AllReadyH.cons (o := ?oot4) ?hit4 (fun K hK => ?hkt4) AllReadyH.nil)
  rotate_left
  case hit4 => (simp only [List.getElem?_toArray, List.getElem?_cons_succ, List.getElem?_cons_zero]; rfl)
  (rw [if_pos (by rfl)]; go_simp; refine (one_any b U.heap.size 6 6 _ 0 999 _ (rd_below R3 hbU (((Below.refl _ U).alloc (Nat.le_refl _) (.cells ([1, 2, 3, 4, 0, 999].map (Value.int .i64)).toArray 3)).drew)) (by omega) (by omega) (by simp) (by omega) (by omega) (fun i hi => lit_cells U [1, 2, 3, 4, 0, 999] 3 0 999 (by simp) i (by simpa using hi))).mono ?_; rintro e W7 ⟨z, rfl, z0, z1, hR7, hG7⟩; have g7 : U.grownBy W7 (some b) := g_trans (g_of (((Below.refl _ U).alloc (Nat.le_refl _) (.cells ([1, 2, 3, 4, 0, 999].map (Value.int .i64)).toArray 3)).drew) (some b)) hG7; have KRV := Lib.hid (KRU.out _ g7); have HTV := Lib.hid (HTU.out _ g7); have HBV := Lib.hid (HBU.out _ g7); have KK := MK.out _ g7; clear hR7 hG7; go_wp2_with fail; refine hK.out _ _ (KK) (fun hHeld => ?_); clear hK K)
  try simp only [Act.put, List.setIfInBounds_toArray, List.set_cons_zero, List.set_cons_succ]
  refine wpAnyH_ready (rs := [4]) (by kernel_rfl) (by simp) (AllReadyH.cons (o := ?oot5) ?hit5 (fun K hK => ?hkt5) AllReadyH.nil)
  rotate_left
  case hit5 => (simp only [List.getElem?_toArray, List.getElem?_cons_succ, List.getElem?_cons_zero]; rfl)
  (rw [if_pos (by rfl)]; obtain ⟨fc0, fc1, fc2, fc3, fc4, fc5, fc6, fc7, fc8, fc9⟩ := town_cells KRV.out; have ff0 := KRV.out.frozen 0; have ff1 := KRV.out.frozen 1; have ff2 := KRV.out.frozen 2; have ff3 := KRV.out.frozen 3; have ff4 := KRV.out.frozen 4; have ff5 := KRV.out.frozen 5; have ff6 := KRV.out.frozen 6; have ff7 := KRV.out.frozen 7; have ff8 := KRV.out.frozen 8; have ff9 := KRV.out.frozen 9; go_simp; obtain ⟨y1, hy⟩ : ∃ Y_, Y_ = sets10 W7 w.heap.size (.slice q.a1 u.hs.length q.c1) (.slice q.a2 u.ts.length q.c2) (.slice q.a3 u.ns.length q.c3) (.int .i64 u.r) (.int .i64 u.hd) (.slice q.a4 u.ac.length q.c4) (.int .i64 u.rt) (.int .i64 u.tm) (.int .i64 u.ls) (.int .i64 u.cm) := ⟨_, rfl⟩; change K _ (sets10 _ _ _ _ _ _ _ _ _ _ _ _); rw [← hy]; have KF := sets10_blk (v0 := .slice q.a1 u.hs.length q.c1) (v1 := .slice q.a2 u.ts.length q.c2) (v2 := .slice q.a3 u.ns.length q.c3) (v3 := .int .i64 u.r) (v4 := .int .i64 u.hd) (v5 := .slice q.a4 u.ac.length q.c4) (v6 := .int .i64 u.rt) (v7 := .int .i64 u.tm) (v8 := .int .i64 u.ls) (v9 := .int .i64 u.cm) KRV.out; rw [← hy] at KF; have HF := Lib.hid (show Below w.heap.size w y1 by subst hy; exact HBV.out.trans (sets10_at (Nat.le_refl _) _ _ _ _ _ _ _ _ _ _)); have HT := Lib.hid (X10o HTV.out KRV.out hy); have KK : y1.cell? ⟨gS, 0, none⟩ = some (.slice q.a1 u.hs.length q.c1) ∧ y1.cell? ⟨gS, 1, none⟩ = some (.slice q.a2 u.ts.length q.c2) ∧ y1.cell? ⟨gS, 2, none⟩ = some (.slice q.a3 u.ns.length q.c3) ∧ y1.cell? ⟨gS, 3, none⟩ = some (.int .i64 u.r) ∧ y1.cell? ⟨gS, 4, none⟩ = some (.int .i64 u.hd) ∧ y1.cell? ⟨gS, 5, none⟩ = some (.slice q.a4 u.ac.length q.c4) ∧ y1.cell? ⟨gS, 6, none⟩ = some (.int .i64 u.rt) ∧ y1.cell? ⟨gS, 7, none⟩ = some (.int .i64 u.tm) ∧ y1.cell? ⟨gS, 8, none⟩ = some (.int .i64 u.ls) ∧ y1.cell? ⟨gS, 9, none⟩ = some (.int .i64 u.cm) := ⟨(World.cell?_of_block (by subst hy; exact sets10_other neS _ _ _ _ _ _ _ _ _ _)).trans hHeld.1, (World.cell?_of_block (by subst hy; exact sets10_other neS _ _ _ _ _ _ _ _ _ _)).trans hHeld.2.1, (World.cell?_of_block (by subst hy; exact sets10_other neS _ _ _ _ _ _ _ _ _ _)).trans hHeld.2.2.1, (World.cell?_of_block (by subst hy; exact sets10_other neS _ _ _ _ _ _ _ _ _ _)).trans hHeld.2.2.2.1, (World.cell?_of_block (by subst hy; exact sets10_other neS _ _ _ _ _ _ _ _ _ _)).trans hHeld.2.2.2.2.1, (World.cell?_of_block (by subst hy; exact sets10_other neS _ _ _ _ _ _ _ _ _ _)).trans hHeld.2.2.2.2.2.1, (World.cell?_of_block (by subst hy; exact sets10_other neS _ _ _ _ _ _ _ _ _ _)).trans hHeld.2.2.2.2.2.2.1, (World.cell?_of_block (by subst hy; exact sets10_other neS _ _ _ _ _ _ _ _ _ _)).trans hHeld.2.2.2.2.2.2.2.1, (World.cell?_of_block (by subst hy; exact sets10_other neS _ _ _ _ _ _ _ _ _ _)).trans hHeld.2.2.2.2.2.2.2.2.1, (World.cell?_of_block (by subst hy; exact sets10_other neS _ _ _ _ _ _ _ _ _ _)).trans hHeld.2.2.2.2.2.2.2.2.2⟩; clear hy fc0 ff0 fc1 ff1 fc2 ff2 fc3 ff3 fc4 ff4 fc5 ff5 fc6 ff6 fc7 ff7 fc8 ff8 fc9 ff9; refine hK.out _ _ (KK) (fun hHeld => ?_); clear hK K)
  try simp only [Act.put, List.setIfInBounds_toArray, List.set_cons_zero, List.set_cons_succ]
  refine wpAnyH_take (i := 5) (oi := ?oot6) (v := ?vvt6) ?hit6 (by kernel_rfl) ?h3t6 ?h4t6 ?h5t6 ?h6t6 (by assumption) ?h8t6
  case hit6 => (simp only [List.getElem?_toArray, List.getElem?_cons_succ, List.getElem?_cons_zero]; rfl)
  case h3t6 => kernel_rfl
  case h4t6 => kernel_rfl
  case h6t6 => (refine Or.inl ⟨by rfl, ?_⟩; intro w hSw; (try dsimp only at hSw); (go_simp <;> with_reducible rfl))
  case h5t6 => exact fun _ _ _ h => h
  try simp only [Act.put, List.setIfInBounds_toArray, List.set_cons_zero, List.set_cons_succ]
  refine wpAnyH_done (by kernel_rfl) ?_ _
  obtain ⟨z0_, z1_, z2_, z3_, z4_, z5_, z6_, z7_, z8_, z9_⟩ := town_cells KF
  clear KF KK hHeld
  go_wp2_with fail
  refine bodyPost_ret (v := .tuple #[.agg #[.slice q.a1 u.hs.length q.c1, .slice q.a2 u.ts.length q.c2, .slice q.a3 u.ns.length q.c3, .int .i64 u.r, .int .i64 u.hd, .slice q.a4 u.ac.length q.c4, .int .i64 u.rt, .int .i64 u.tm, .int .i64 u.ls, .int .i64 u.cm], .int .i64 z]) (by simp [results, Try.results29, go_sem, z0_, z1_, z2_, z3_, z4_, z5_, z6_, z7_, z8_, z9_]) rfl ⟨q, u, z, rfl, HT.out.is, HF.out⟩
end Go.Proofs.Ytaehemmjemhgpaa
