/- The wishes that the laws draw: any ones. Condition: the reader has read at most 50000 numbers before. -/
import Derived.Test.YtdlbjmhjaljlfabDrawWc
import Derived.Deep.RegionHeld3
namespace Go.Proofs.Ytdlbjmhjaljlfab
open Go.RowKit
set_option linter.unusedSimpArgs false
set_option linter.unusedVariables false
theorem kO1 {W wq v : World} {x : Value} {p b : Nat} (hG : W.grownBy wq (some b)) (hp : p ≠ b) (h : W.cell? ⟨p, 0, none⟩ = some x ∧ v.grownBy W (some b)) : wq.cell? ⟨p, 0, none⟩ = some x ∧ v.grownBy wq (some b) :=
  ⟨(g_cell hG (World.block_lt_of_cell? W _ h.1) hp).trans h.1, g_trans h.2 hG⟩
theorem kA1 {U v : World} {x : Value} {p b : Nat} (O : Obj) (h : U.cell? ⟨p, 0, none⟩ = some x) (hG : v.grownBy U (some b)) : (U.alloc O).drew.cell? ⟨p, 0, none⟩ = some x ∧ v.grownBy (U.alloc O).drew (some b) :=
  ⟨((Below.refl U.heap.size U).alloc (Nat.le_refl _) O).cell (World.block_lt_of_cell? U _ h) |>.trans h, g_drewN (g_alloc hG O) 1⟩
def AnyWs (w : World) (b : Nat) (P : Int) (e : Ending) (w' : World) : Prop := ∃ (v : Value) (n : Nat) (rv : List Value), e = .returned v ∧ n ≤ 8 ∧ w'.ownsRow w.heap.size 40 1 v n rv ∧ rv.length = n ∧ (∀ j, j < n → RowOk w' w.heap.size b n (rv.getD j undef) v.ownBlock) ∧ Rd w' b (P + 110) ∧ w.grownBy w' (some b)
set_option maxRecDepth 100000 in
set_option maxHeartbeats 6000000 in
theorem anyWs (b : Nat) (P : Int) (w : World) (h : Rd w b P) (hP : P ≤ 50000) (hb : b < w.heap.size) :
    Calls Try.prog 41 #[.pointer (some ⟨b, 0, none⟩)] w (AnyWs w b P) := by
  go_enter Try.func41, Try.ntmps41
  go_wp2_with fail
  refine (someWs b P _ h (by omega) hb).mono ?_
  rintro e w1 ⟨v, n, rv, rfl, n8, hO, hrl, hrows, hR1, hG1⟩
  have hb1 := Nat.lt_of_lt_of_le hb hG1.size
  have HO := Lib.hid hO
  have HROWS := Lib.hid hrows
  clear h
  by_cases hn : n = 0
  · obtain ⟨a, cap, rs, rfl, hl, hc, _⟩ := rows_of hO hrl hrows
    have e0 : rs.length = 0 := by omega
    have HL := Lib.hid hl
    rw [e0]
    have HF := Lib.hid (And.intro (rd_up (P' := P + 110) hR1 (by omega)) hG1)
    clear hO hrows hR1 hG1
    go_wp2_with fail
    go_ret
    refine ⟨.slice a rs.length cap, n, rv, by rw [e0]; rfl, n8, HO.out, hrl, HROWS.out, HF.out.1, HF.out.2⟩
  · have n1 : 1 ≤ n := by omega
    obtain ⟨go, co, rfl, lgo, lto⟩ := hO.form (by omega)
    have np : decide ((0 : Int) < (n : Int)) = true := decide_eq_true (by omega)
    have np2 : decide (0 < n) = true := decide_eq_true (by omega)
    go_wp2_with fail
    refine (pick_any b _ 16 _ hR1 (by omega)).mono ?_
    rintro e w2 ⟨p, rfl, hp, hR2, hG2⟩
    have hb2 := Nat.lt_of_lt_of_le hb1 hG2.size
    have hob : (Value.slice (some ⟨go, 0, none⟩) n co).ownBlock ≠ some b := fun e => by have e2 : go = b := Option.some.inj e; omega
    have HO2 := Lib.hid (hO.kept hG2 (.inr hob))
    have HR2 := Lib.hid (fun j hj => rowok_grow (hrows j hj) hG2)
    have G2 := g_trans hG1 hG2
    clear hO hrows hR1 hG1 hG2 hp HO HROWS
    by_cases p0 : p = 0
    · have e0 : ((p : Int) == 0) = true := by simp [p0]
      obtain ⟨xs, hxl, hrow, hrb, hro⟩ := HR2.out 0 (by omega)
      obtain ⟨g, cr, hge, lg, ltg⟩ := hrow.form (by omega)
      rw [hge] at hrow hrb hro
      have hgo : (Value.slice (some ⟨go, 0, none⟩) n co).ownBlock ≠ some g := fun e => hro (by rw [e]; rfl)
      have hgo2 : g ≠ go := fun e => hgo (by rw [e]; rfl)
      have hgb : g ≠ b := fun e => hrb (by rw [e]; rfl)
      have hgob : go ≠ b := fun e => hob (by rw [e]; rfl)
      have hgw : w.heap.size ≤ g := lg
      have hbg : b < g := by omega
      have c0 : w2.cell? ⟨go, 0, none⟩ = some (.slice (some ⟨g, 0, none⟩) n cr) := by
        have := World.ownsRow.cells (g := go) HO2.out rfl 0 (rv.getD 0 undef) (by rw [List.getD_eq_getElem?_getD, List.getElem?_eq_getElem (by omega)]; rfl)
        rw [add_off] at this
        rw [this, hge]
      have c1 : w2.cell? ⟨g, 0, none⟩ = some (.int .i64 (xs.getD 0 0)) := by
        have := World.ownsRow.cells (g := g) hrow rfl 0 (.int .i64 (xs.getD 0 0)) (by rw [List.getElem?_map, List.getD_eq_getElem?_getD, List.getElem?_eq_getElem (by omega)]; rfl)
        rwa [add_off] at this
      have f1 := hrow.frozenAt 0
      generalize xs.getD 0 0 = x at c1
      have Rd2 : Rd (World.drew w2) b _ := hR2
      have S2d : (World.drew w2).cell? ⟨go, 0, none⟩ = some (.slice (some ⟨g, 0, none⟩) n cr) ∧ w.grownBy (World.drew w2) (some b) := ⟨c0, g_drewN G2 1⟩
      have HO2d : Hid ((World.drew w2).ownsRow w.heap.size 40 1 (.slice (some ⟨go, 0, none⟩) n co) n rv) := HO2.out
      have HR2d : Hid (∀ j, j < n → RowOk (World.drew w2) w.heap.size b n (rv.getD j undef) (Value.slice (some ⟨go, 0, none⟩) n co).ownBlock) := HR2.out
      have ni : (0 : Int) < (n : Int) := by omega
      have np3 : 0 < n := by omega
      clear p0 hrow hge hrb hro
      go_wp2_with fail
      refine wp_region_held_drew (S := (fun w' => w'.cell? ⟨go, 0, none⟩ = some (.slice (some ⟨g, 0, none⟩) n cr) ∧ w.grownBy w' (some b))) (by kernel_rfl) ?_ (fun hHeld => ?_)
      · exact ⟨c0, g_drewN G2 1⟩
      refine wpAnyH_take (i := 0) (oi := ?oot1) (v := ?vvt1) ?hit1 (by kernel_rfl) ?h3t1 ?h4t1 ?h5t1 ?h6t1 (by assumption) ?h8t1
      case hit1 => (simp only [List.getElem?_toArray, List.getElem?_cons_succ, List.getElem?_cons_zero]; rfl)
      case h3t1 => kernel_rfl
      case h4t1 => kernel_rfl
      case h6t1 => (refine Or.inl ⟨by rfl, ?_⟩; intro w hSw; (try dsimp only at hSw); (go_simp <;> with_reducible rfl))
      case h5t1 => exact fun _ _ _ h => h
      try simp only [Act.put, List.setIfInBounds_toArray, List.set_cons_zero, List.set_cons_succ]
      refine wpAnyH_take (i := 1) (oi := ?oot2) (v := ?vvt2) ?hit2 (by kernel_rfl) ?h3t2 ?h4t2 ?h5t2 ?h6t2 (by assumption) ?h8t2
      case hit2 => (simp only [List.getElem?_toArray, List.getElem?_cons_succ, List.getElem?_cons_zero]; rfl)
      case h3t2 => kernel_rfl
      case h4t2 => kernel_rfl
      case h6t2 => (refine Or.inl ⟨by rfl, ?_⟩; intro w hSw; (try dsimp only at hSw); (go_simp <;> with_reducible rfl))
      case h5t2 => exact fun _ _ _ h => h
      try simp only [Act.put, List.setIfInBounds_toArray, List.set_cons_zero, List.set_cons_succ]
      refine wpAnyH_take (i := 2) (oi := ?oot3) (v := ?vvt3) ?hit3 (by kernel_rfl) ?h3t3 ?h4t3 ?h5t3 ?h6t3 (by assumption) ?h8t3
      case hit3 => (simp only [List.getElem?_toArray, List.getElem?_cons_succ, List.getElem?_cons_zero]; rfl)
      case h3t3 => kernel_rfl
      case h4t3 => kernel_rfl
      case h6t3 => (refine Or.inl ⟨by rfl, ?_⟩; intro w hSw; (try dsimp only at hSw); (go_simp <;> with_reducible rfl))
      case h5t3 => exact fun _ _ _ h => h
      try simp only [Act.put, List.setIfInBounds_toArray, List.set_cons_zero, List.set_cons_succ]
      refine wpAnyH_take (i := 3) (oi := ?oot4) (v := ?vvt4) ?hit4 (by kernel_rfl) ?h3t4 ?h4t4 ?h5t4 ?h6t4 (by assumption) ?h8t4
      case hit4 => (simp only [List.getElem?_toArray, List.getElem?_cons_succ, List.getElem?_cons_zero]; rfl)
      case h3t4 => kernel_rfl
      case h4t4 => kernel_rfl
      case h6t4 => (refine Or.inl ⟨by rfl, ?_⟩; intro w hSw; (try dsimp only at hSw); (go_simp <;> with_reducible rfl))
      case h5t4 => exact fun _ _ _ h => h
      try simp only [Act.put, List.setIfInBounds_toArray, List.set_cons_zero, List.set_cons_succ]
      refine wpAnyH_ready (rs := [4]) (by kernel_rfl) (by simp) (AllReadyH.cons (o := ?oot5) ?hit5 (fun K hK => ?hkt5) AllReadyH.nil)
      rotate_left
      case hit5 => (simp only [List.getElem?_toArray, List.getElem?_cons_succ, List.getElem?_cons_zero]; rfl)
      (rw [if_pos (by rfl)]; go_simp; have S5 := kA1 (.cells #[.int .i64 (-1), .int .i64 9, .int .i64 0] 3) c0 G2; refine hK.out _ _ (S5) (fun hHeld => ?_); clear hK K)
      try simp only [Act.put, List.setIfInBounds_toArray, List.set_cons_zero, List.set_cons_succ]
      refine wpAnyH_ready (rs := [5]) (by kernel_rfl) (by simp) (AllReadyH.cons (o := ?oot6) ?hit6 (fun K hK => ?hkt6) AllReadyH.nil)
      rotate_left
      case hit6 => (simp only [List.getElem?_toArray, List.getElem?_cons_succ, List.getElem?_cons_zero]; rfl)
      (rw [if_pos (by rfl)]; go_simp; refine (one_lit b 3 _ (-1) 9 [-1, 9, 0] 3 (World.drew w2) Rd2 (by omega) hb2 rfl (by omega) (by omega) (by simp)).mono ?_; rintro e W6 ⟨z, rfl, z0, z1, hR6, hG6⟩; have f6 := (g_frozen hG6 (World.block_lt_of_cell? (World.drew w2) _ c1) hgb).trans f1; have c6 := (g_cell hG6 (World.block_lt_of_cell? (World.drew w2) _ c1) hgb).trans c1; go_wp2_with fail; refine hK.out _ _ (kO1 hG6 hgob S2d) (fun hHeld => ?_); clear hK K)
      try simp only [Act.put, List.setIfInBounds_toArray, List.set_cons_zero, List.set_cons_succ]
      refine wpAnyH_take (i := 6) (oi := ?oot7) (v := ?vvt7) ?hit7 (by kernel_rfl) ?h3t7 ?h4t7 ?h5t7 ?h6t7 (by assumption) ?h8t7
      case hit7 => (simp only [List.getElem?_toArray, List.getElem?_cons_succ, List.getElem?_cons_zero]; rfl)
      case h3t7 => kernel_rfl
      case h4t7 => kernel_rfl
      case h6t7 => (refine Or.inl ⟨by rfl, ?_⟩; intro w hSw; (try dsimp only at hSw); (go_simp <;> with_reducible rfl))
      case h5t7 => exact fun _ _ _ h => h
      try simp only [Act.put, List.setIfInBounds_toArray, List.set_cons_zero, List.set_cons_succ]
      refine wpAnyH_ready (rs := [7]) (by kernel_rfl) (by simp) (AllReadyH.cons (o := ?oot8) ?hit8 (fun K hK => ?hkt8) AllReadyH.nil)
      rotate_left
      case hit8 => (simp only [List.getElem?_toArray, List.getElem?_cons_succ, List.getElem?_cons_zero]; rfl)
      (rw [if_pos (by rfl)]; go_simp; have OF := Lib.hid (out_store (HO2d.out.kept hG6 (.inr hob)) hgo z); have RF := Lib.hid (fun j hj => rowok_store (g := g) (rowok_grow (HR2d.out j hj) hG6) n1 z); have GF := g_set (p := ⟨g, 0, none⟩) hHeld.2 (.inr hgw) (.int .i64 z); have RDF := Lib.hid (rd_below hR6 hbg ((Below.refl g W6).setCell (p := ⟨g, 0, none⟩) (Nat.le_refl g) (.int .i64 z))); clear f6 c6; refine hK.out _ _ (⟨so (fun e => hgo2 (by injection e)) hHeld.1, GF⟩) (fun hHeld => ?_); clear hK K)
      try simp only [Act.put, List.setIfInBounds_toArray, List.set_cons_zero, List.set_cons_succ]
      refine wpAnyH_done (by kernel_rfl) ?_ _
      obtain ⟨_, GFF⟩ := hHeld
      have HGF := Lib.hid GFF
      clear GFF
      go_wp2_with fail
      go_ret
      exact ⟨_, n, rv, rfl, n8, OF.out, hrl, RF.out, rd_up RDF.out (by omega), HGF.out⟩
    · have e0 : ((p : Int) == 0) = false := by simp; omega
      have HF := Lib.hid (And.intro (rd_up (P' := P + 110) hR2 (by omega)) G2)
      clear p0 hR2 G2
      go_wp2_with fail
      go_ret
      exact ⟨_, n, rv, rfl, n8, HO2.out, hrl, HR2.out, HF.out.1, HF.out.2⟩
end Go.Proofs.Ytdlbjmhjaljlfab
