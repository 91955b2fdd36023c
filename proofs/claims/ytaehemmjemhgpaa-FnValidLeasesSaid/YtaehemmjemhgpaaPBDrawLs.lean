/- The leases that the laws draw. Condition: the reader has read at most 60000 numbers before. -/
import Derived.Test.YtaehemmjemhgpaaPBG5
import Derived.Test.YtaehemmjemhgpaaPBG1
import Derived.Test.YtaehemmjemhgpaaPBG0
import Derived.Test.YtaehemmjemhgpaaPBLzs
set_option maxRecDepth 100000
set_option maxHeartbeats 16000000
namespace Go.Proofs.Ytaehemmjemhgpaa
open Go.RowKit
set_option linter.unusedSimpArgs false
set_option linter.unusedVariables false

/-- what someLeases leaves -/
def SomeLz (w : World) (b : Nat) (P : Int) (e : Ending) (w' : World) : Prop := ∃ (v : Value) (ls : List Lr), e = .returned v ∧ ls.length ≤ 3 ∧ OwnLz w' w.heap.size v ls ∧ Rd w' b (P + 61) ∧ w.grownBy w' (some b)
theorem someLz (b : Nat) (P : Int) (a : Option Addr) (cap base : Nat) (hs : List Hd) (w : World) (h : Rd w b P) (hP : P ≤ 60000) (hb : b < w.heap.size) (hi : IsHs w a hs) (hl : hs.length ≤ 1048576) (ha : ∀ ad, a = some ad → base ≤ ad.block) (hbb : b < base) :
    Calls Try.prog 64 #[.pointer (some ⟨b, 0, none⟩), .slice a hs.length cap] w (SomeLz w b P) := by
  obtain ⟨i0, hi0, hz0, hzz, hz2⟩ := info_parts infoLs
  have HI := Lib.hid hi
  obtain ⟨w0, hw0⟩ : ∃ y, y = w.alloc (.cells #[] 97) := ⟨_, rfl⟩
  have R0 : Rd w0 b P := by subst hw0; exact rd_alloc h hb _
  have G0 : w.grownBy w0 (some b) := by subst hw0; exact g_alloc (g_of (Below.refl _ _) _) _
  have O0 : OwnLz w0 w.heap.size (.slice (some ⟨w.heap.size, 0, none⟩) 0 0) [] := by subst hw0; exact ⟨rfl, .inr ⟨w.heap.size, 0, #[], rfl, Nat.le_refl _, Blk.new _ _ _, Nat.le_refl _, by unfold maxLen; omega, rfl, rfl⟩⟩
  have hb0 := Nat.lt_of_lt_of_le hb G0.size
  have HW0 := Lib.hid hw0
  clear hi h hw0
  go_enter Try.func64, Try.ntmps64
  go_upto_region 2 with fail
  rw [← HW0.out]
  go_wp2_with fail
  refine (one_lit b 4 _ 0 3 [1, 2, 3, 0] _ w0 R0 (by omega) hb0 rfl (by omega) (by omega) (by simp)).mono ?_
  rintro e w1 ⟨c0, rfl, l0, l1, hR1, hG1⟩
  have O1 : OwnLz w1 w.heap.size (.slice (some ⟨w.heap.size, 0, none⟩) 0 0) [] := World.ownsRow.kept O0 hG1 (.inr (by intro h; have := (World.ownsRow.lt O0 b h).1; omega))
  have G1 : w.grownBy w1 (some b) := g_trans G0 hG1
  clear R0 hG1 O0 G0 HW0
  go_wp2_with fail
  go_loopw [5, 6] (fun v i wr => ∃ (xs : List Lr) (c : Int), 0 ≤ c ∧ (xs.length : Int) + c ≤ 3 ∧ i = .int .i64 c ∧ OwnLz wr w.heap.size v xs ∧ Rd wr b (P + 1 + 20 * (xs.length : Int)) ∧ w.grownBy wr (some b)) (fun _ i _ => (intOf i).toNat)
  case atStart => exact ⟨[], c0, l0, by simp; omega, rfl, O1, by simpa using hR1, G1⟩
  case round =>
    clear hR1 O1 G1
    obtain ⟨xs, c, hc, hxc, rfl, hown, hR, hG⟩ := hrel
    obtain ⟨vb, vc, rfl, _, _⟩ := own_lz hown
    have HO := Lib.hid hown
    have HGr := Lib.hid hG
    have hbr := Nat.lt_of_lt_of_le hb hG.size
    by_cases hc0 : 0 < c
    · have hx3 : xs.length ≤ 2 := by omega
      clear hown
      go_wp2_with fail
      refine (anOwner b _ a cap base hs _ hR (by omega) hbr (hs_grown HI.out ha hbb hG) hl ha hbb).mono ?_
      rintro e w2 ⟨o, rfl, hR2, hG2⟩
      have hb2 := Nat.lt_of_lt_of_le hbr hG2.size
      clear hR
      go_wp2_with fail
      refine (sshare a cap hs o _ (hs_grown HI.out ha hbb (g_trans hG hG2)) hl).mono ?_
      unfold ShareV
      rintro e w3 ⟨rfl, C3⟩
      generalize (shR hs o).1 = sn
      generalize (shR hs o).2 = sd
      have hb3 := Nat.lt_of_lt_of_le hb2 C3.size
      obtain ⟨U3, hU3⟩ : ∃ y, y = w3.alloc (.cells #[.int .i64 sn, .int .i64 sd] 58) := ⟨_, rfl⟩
      have K8 : Blk U3 w3.heap.size 58 #[.int .i64 sn, .int .i64 sd] := by subst hU3; exact Blk.new _ _ _
      have R3 : Rd U3 b (P + 1 + 20 * (xs.length : Int) + 3) := by subst hU3; exact rd_alloc (rd_below hR2 hb2 C3) hb3 _
      have G3 : wr.grownBy U3 (some b) := by subst hU3; exact g_alloc (g_trans hG2 (g_below C3 _)) _
      have hbU3 : b < U3.heap.size := Nat.lt_of_lt_of_le hbr G3.size
      have HU3 := Lib.hid hU3
      clear hR2 hG2 C3 hU3
      generalize hg8 : w3.heap.size = g8 at K8 ⊢
      have ne8 : g8 ≠ b := by omega
      clear hb3
      go_upto_region 7 with fail
      subst hg8
      rw [← HU3.out]
      generalize w3.heap.size = g8 at K8 ne8 ⊢
      go_wp2_with fail
      refine (someFrac_any b _ _ R3 (by omega) hbU3).mono ?_
      rintro e w4 ⟨fx, fy, rfl, _, _, _, _, hR4, hG4⟩
      have hb4 := Nat.lt_of_lt_of_le hbU3 hG4.size
      obtain ⟨s0, s1, _, _, s4⟩ := blk_two K8
      replace s0 := (g_cell hG4 (o := 0) s4 ne8).trans s0
      replace s1 := (g_cell hG4 (o := 1) s4 ne8).trans s1
      replace s4 := Nat.lt_of_lt_of_le s4 hG4.size
      have ne89 : w4.heap.size ≠ g8 := by omega
      have gb9 : b < w4.heap.size := hb4
      obtain ⟨U4, hU4⟩ : ∃ y, y = w4.alloc (.cells #[.int .i64 fx, .int .i64 fy] 58) := ⟨_, rfl⟩
      have K9 : Blk U4 w4.heap.size 58 #[.int .i64 fx, .int .i64 fy] := by subst hU4; exact Blk.new _ _ _
      have D4 : Below w4.heap.size w4 U4 := by subst hU4; exact (Below.refl _ _).alloc (Nat.le_refl _) _
      have HU4 := Lib.hid hU4
      have R4 : Rd U4 b (P + 1 + 20 * (xs.length : Int) + 6) := by subst hU4; exact rd_alloc (rd_up hR4 (by omega)) hb4 _
      have G4 : wr.grownBy U4 (some b) := by subst hU4; exact g_alloc (g_trans G3 hG4) _
      replace s0 := (D4.cell (p := ⟨g8, 0, none⟩) s4).trans s0
      replace s1 := (D4.cell (p := ⟨g8, 1, none⟩) s4).trans s1
      replace s4 := Nat.lt_of_lt_of_le s4 D4.size
      have ne9 : w4.heap.size ≠ b := by omega
      have ge9 : wr.heap.size ≤ w4.heap.size := (g_trans G3 hG4).size
      clear R3 G3 K8 hR4 hG4 hU4 D4 hbU3
      go_upto_region 8 with fail
      rw [← HU4.out]
      generalize w4.heap.size = g9 at K9 ne9 ge9 ne89 gb9 ⊢
      clear HU4 hb4 HU3
      have CV := svalid sn sd U4
      have hbU4 := Nat.lt_of_lt_of_le hbr G4.size
      cases hv : Wsh.vfB sn sd with
      | false =>
        rw [hv] at CV
        go_wp2_with fail
        refine CV.mono ?_
        rintro e W ⟨rfl, C5⟩
        obtain ⟨q0, q1, _, _, lt9⟩ := blk_two (K9.next C5)
        have HRn : Hid (Rd W b (P + 1 + 20 * (xs.length : Int) + 12)) := rd_up (rd_below R4 hbU4 C5) (by omega)
        have Gr := Lib.hid (g_trans G4 (g_below C5 _))
        have hbW := Nat.lt_of_lt_of_le hbU4 C5.size
        generalize fx = x at q0
        generalize fy = y at q1
        clear R4 G4 C5 K9 s0 s1 s4 CV
        go_wp2_with fail
        refine (pick_any b _ 30 _ HRn.out (by omega)).mono ?_
        rintro e U ⟨t, rfl, ht, hRU, hGU⟩
        have hbU := Nat.lt_of_lt_of_le hbW hGU.size
        have GrU := g_trans Gr.out hGU
        have q0' := (g_cell hGU (o := 0) lt9 ne9).trans q0
        have q1' := (g_cell hGU (o := 1) lt9 ne9).trans q1
        have lt9U := Nat.lt_of_lt_of_le lt9 hGU.size
        have RU : Hid (Rd U.drew b (P + 1 + 20 * (xs.length : Int) + 13)) := rd_below (rd_up hRU (by omega)) hbU (Below.refl _ _).drew
        have GW := Lib.hid (g_trans HGr.out GrU)
        have IU : Hid (IsHs U.drew a hs) := hs_below (hs_grown HI.out ha hbb GW.out) (Below.refl _ _).drew
        have OU := Lib.hid (fun (V : World) (hV : U.grownBy V (some b)) => (World.ownsRow.kept HO.out (g_trans GrU hV) (.inr (by intro h; have := (World.ownsRow.lt HO.out b h).1; omega)) : OwnLz V w.heap.size (.slice vb xs.length vc) xs))
        have MK := Lib.hid (fun (V : World) (hV : U.grownBy V (some b)) => (⟨⟨(g_cell hV (o := 0) lt9U ne9).trans q0', (g_cell hV (o := 1) lt9U ne9).trans q1'⟩, g_trans GW.out hV⟩ : (V.cell? ⟨g9, 0, none⟩ = some (.int .i64 x) ∧ V.cell? ⟨g9, 1, none⟩ = some (.int .i64 y)) ∧ w.grownBy V (some b)))
        have NE : Hid ((Value.slice vb xs.length vc).ownBlock ≠ some g9) := fun h => by have := (World.ownsRow.lt HO.out g9 h).2; omega
        have hsU := GW.out.size
        clear hGU hRU GrU HRn Gr q0 q1
        go_wp2_with fail
        refine wp_region_held_drew (S := (fun w' => (w'.cell? ⟨g9, 0, none⟩ = some (.int .i64 x) ∧ w'.cell? ⟨g9, 1, none⟩ = some (.int .i64 y)) ∧ w.grownBy w' (some b))) (by kernel_rfl) ?_ (fun hHeld => ?_)
        · exact MK.out _ (g_of (Below.refl _ _).drew _)
        refine wpAnyH_take (i := 0) (oi := ?oot31) (v := ?vvt31) ?hit31 (by kernel_rfl) ?h3t31 ?h4t31 ?h5t31 ?h6t31 (by assumption) ?h8t31
        case hit31 => (simp only [List.getElem?_toArray, List.getElem?_cons_succ, List.getElem?_cons_zero]; rfl)
        case h3t31 => kernel_rfl
        case h4t31 => kernel_rfl
        case h6t31 => (refine Or.inl ⟨by rfl, ?_⟩; intro w hSw; (try dsimp only at hSw); (go_simp <;> with_reducible rfl))
        case h5t31 => exact fun _ _ _ h => h
        try simp only [Act.put, List.setIfInBounds_toArray, List.set_cons_zero, List.set_cons_succ]
        refine wpAnyH_take (i := 1) (oi := ?oot32) (v := ?vvt32) ?hit32 (by kernel_rfl) ?h3t32 ?h4t32 ?h5t32 ?h6t32 (by assumption) ?h8t32
        case hit32 => (simp only [List.getElem?_toArray, List.getElem?_cons_succ, List.getElem?_cons_zero]; rfl)
        case h3t32 => kernel_rfl
        case h4t32 => kernel_rfl
        case h6t32 => (refine Or.inl ⟨by rfl, ?_⟩; intro w hSw; (try dsimp only at hSw); (go_simp <;> with_reducible rfl))
        case h5t32 => exact fun _ _ _ h => h
        try simp only [Act.put, List.setIfInBounds_toArray, List.set_cons_zero, List.set_cons_succ]
        refine wpAnyH_take (i := 2) (oi := ?oot33) (v := ?vvt33) ?hit33 (by kernel_rfl) ?h3t33 ?h4t33 ?h5t33 ?h6t33 (by assumption) ?h8t33
        case hit33 => (simp only [List.getElem?_toArray, List.getElem?_cons_succ, List.getElem?_cons_zero]; rfl)
        case h3t33 => kernel_rfl
        case h4t33 => kernel_rfl
        case h6t33 => (refine Or.inl ⟨by rfl, ?_⟩; intro w hSw; (try dsimp only at hSw); (go_simp <;> with_reducible rfl))
        case h5t33 => exact fun _ _ _ h => h
        try simp only [Act.put, List.setIfInBounds_toArray, List.set_cons_zero, List.set_cons_succ]
        refine wpAnyH_take (i := 3) (oi := ?oot34) (v := ?vvt34) ?hit34 (by kernel_rfl) ?h3t34 ?h4t34 ?h5t34 ?h6t34 (by assumption) ?h8t34
        case hit34 => (simp only [List.getElem?_toArray, List.getElem?_cons_succ, List.getElem?_cons_zero]; rfl)
        case h3t34 => kernel_rfl
        case h4t34 => kernel_rfl
        case h6t34 => (refine Or.inl ⟨by rfl, ?_⟩; intro w hSw; (try dsimp only at hSw); (go_simp <;> with_reducible rfl))
        case h5t34 => exact fun _ _ _ h => h
        try simp only [Act.put, List.setIfInBounds_toArray, List.set_cons_zero, List.set_cons_succ]
        refine wpAnyH_take (i := 5) (oi := ?oot35) (v := ?vvt35) ?hit35 (by kernel_rfl) ?h3t35 ?h4t35 ?h5t35 ?h6t35 (by assumption) ?h8t35
        case hit35 => (simp only [List.getElem?_toArray, List.getElem?_cons_succ, List.getElem?_cons_zero]; rfl)
        case h3t35 => kernel_rfl
        case h4t35 => kernel_rfl
        case h6t35 => (refine Or.inl ⟨by rfl, ?_⟩; intro w hSw; (try dsimp only at hSw); (go_simp <;> with_reducible rfl))
        case h5t35 => exact fun _ _ _ h => h
        try simp only [Act.put, List.setIfInBounds_toArray, List.set_cons_zero, List.set_cons_succ]
        refine wpAnyH_take (i := 6) (oi := ?oot36) (v := ?vvt36) ?hit36 (by kernel_rfl) ?h3t36 ?h4t36 ?h5t36 ?h6t36 (by assumption) ?h8t36
        case hit36 => (simp only [List.getElem?_toArray, List.getElem?_cons_succ, List.getElem?_cons_zero]; rfl)
        case h3t36 => kernel_rfl
        case h4t36 => kernel_rfl
        case h6t36 => (refine Or.inl ⟨by rfl, ?_⟩; intro w hSw; (try dsimp only at hSw); (go_simp <;> with_reducible rfl))
        case h5t36 => exact fun _ _ _ h => h
        try simp only [Act.put, List.setIfInBounds_toArray, List.set_cons_zero, List.set_cons_succ]
        refine wpAnyH_take (i := 7) (oi := ?oot37) (v := ?vvt37) ?hit37 (by kernel_rfl) ?h3t37 ?h4t37 ?h5t37 ?h6t37 (by assumption) ?h8t37
        case hit37 => (simp only [List.getElem?_toArray, List.getElem?_cons_succ, List.getElem?_cons_zero]; rfl)
        case h3t37 => kernel_rfl
        case h4t37 => kernel_rfl
        case h6t37 => (refine Or.inl ⟨by rfl, ?_⟩; intro w hSw; (try dsimp only at hSw); (go_simp <;> with_reducible rfl))
        case h5t37 => exact fun _ _ _ h => h
        try simp only [Act.put, List.setIfInBounds_toArray, List.set_cons_zero, List.set_cons_succ]
        refine wpAnyH_take (i := 8) (oi := ?oot38) (v := ?vvt38) ?hit38 (by kernel_rfl) ?h3t38 ?h4t38 ?h5t38 ?h6t38 (by assumption) ?h8t38
        case hit38 => (simp only [List.getElem?_toArray, List.getElem?_cons_succ, List.getElem?_cons_zero]; rfl)
        case h3t38 => kernel_rfl
        case h4t38 => kernel_rfl
        case h6t38 => (refine Or.inl ⟨by rfl, ?_⟩; intro w hSw; (try dsimp only at hSw); (go_simp <;> with_reducible rfl))
        case h5t38 => exact fun _ _ _ h => h
        try simp only [Act.put, List.setIfInBounds_toArray, List.set_cons_zero, List.set_cons_succ]
        refine wpAnyH_ready (rs := [4]) (by kernel_rfl) (by simp) (AllReadyH.cons (o := ?oot39) ?hit39 (fun K hK => ?hkt39) AllReadyH.nil)
        rotate_left
        case hit39 => (simp only [List.getElem?_toArray, List.getElem?_cons_succ, List.getElem?_cons_zero]; rfl)
        (rw [if_pos (by rfl)]; go_simp; refine (anOwner b _ a cap base hs _ RU.out (by omega) hbU (IU.out) hl ha hbb).mono ?_; rintro e w8 ⟨o2, rfl, hR8, hG8⟩; have g8' := g_trans (g_of (Below.refl U.heap.size U).drew (some b)) hG8; have KK := MK.out _ g8'; have hb8 := Nat.lt_of_lt_of_le hbU hG8.size; go_wp2_with fail; refine hK.out _ _ (KK) (fun hHeld => ?_); clear hK K)
        try simp only [Act.put, List.setIfInBounds_toArray, List.set_cons_zero, List.set_cons_succ]
        refine wpAnyH_ready (rs := [9]) (by kernel_rfl) (by simp) (AllReadyH.cons (o := ?oot40) ?hit40 (fun K hK => ?hkt40) AllReadyH.nil)
        rotate_left
        case hit40 => (simp only [List.getElem?_toArray, List.getElem?_cons_succ, List.getElem?_cons_zero]; rfl)
        (rw [if_pos (by rfl)]; go_simp; refine (pick_any b _ 20 _ hR8 (by omega)).mono ?_; rintro e w9 ⟨u, rfl, hu, hR9, hG9⟩; have g9' := g_trans g8' hG9; have KK := MK.out _ g9'; have wt : IntKind.i64.wrap ((t : Int) + (u : Int)) = (t : Int) + (u : Int) := (by rw [IntKind.wrap_i64]; omega); go_wp2_with fail; refine hK.out _ _ (KK) (fun hHeld => ?_); clear hK K)
        try simp only [Act.put, List.setIfInBounds_toArray, List.set_cons_zero, List.set_cons_succ]
        refine wpAnyH_take (i := 10) (oi := ?oot41) (v := ?vvt41) ?hit41 (by kernel_rfl) ?h3t41 ?h4t41 ?h5t41 ?h6t41 (by assumption) ?h8t41
        case hit41 => (simp only [List.getElem?_toArray, List.getElem?_cons_succ, List.getElem?_cons_zero]; rfl)
        case h3t41 => kernel_rfl
        case h4t41 => kernel_rfl
        case h6t41 => (refine Or.inl ⟨by rfl, ?_⟩; intro w hSw; (try dsimp only at hSw); (go_simp <;> with_reducible rfl))
        case h5t41 => exact fun _ _ _ h => h
        try simp only [Act.put, List.setIfInBounds_toArray, List.set_cons_zero, List.set_cons_succ]
        refine wpAnyH_take (i := 11) (oi := ?oot42) (v := ?vvt42) ?hit42 (by kernel_rfl) ?h3t42 ?h4t42 ?h5t42 ?h6t42 (by assumption) ?h8t42
        case hit42 => (simp only [List.getElem?_toArray, List.getElem?_cons_succ, List.getElem?_cons_zero]; rfl)
        case h3t42 => kernel_rfl
        case h4t42 => kernel_rfl
        case h6t42 => (refine Or.inl ⟨by rfl, ?_⟩; intro w hSw; (try dsimp only at hSw); (go_simp <;> with_reducible rfl))
        case h5t42 => exact fun _ _ _ h => h
        try simp only [Act.put, List.setIfInBounds_toArray, List.set_cons_zero, List.set_cons_succ]
        refine wpAnyH_ready (rs := [12]) (by kernel_rfl) (by simp) (AllReadyH.cons (o := ?oot43) ?hit43 (fun K hK => ?hkt43) AllReadyH.nil)
        rotate_left
        case hit43 => (simp only [List.getElem?_toArray, List.getElem?_cons_succ, List.getElem?_cons_zero]; rfl)
        (rw [if_pos (by rfl)]; go_simp; have KK := MK.out _ (g_alloc g9' (.cells #[.int .i64 o, .int .i64 o2, .int .i64 x, .int .i64 y, .int .i64 (t : Int), .int .i64 ((t : Int) + (u : Int))] 97)); have B9 := Nat.le_trans GW.out.size g9'.size; have O9 := OU.out w9 g9'; have R9 := Lib.hid hR9; have G9 := Lib.hid (g_trans GW.out g9'); refine hK.out _ _ (KK) (fun hHeld => ?_); clear hK K)
        try simp only [Act.put, List.setIfInBounds_toArray, List.set_cons_zero, List.set_cons_succ]
        refine wpAnyH_ready (rs := [13]) (by kernel_rfl) (by simp) (AllReadyH.cons (o := ?oot44) ?hit44 (fun K hK => ?hkt44) AllReadyH.nil)
        rotate_left
        case hit44 => (simp only [List.getElem?_toArray, List.getElem?_cons_succ, List.getElem?_cons_zero]; rfl)
        (rw [if_pos (by rfl)]; refine wp_append_any (P := Try.prog) _ (.tmp 53) (.tmp 65) 32 rfl w.heap.size 97 i0 _ 6 48 Try.underlying32 hi0 hz0 hzz hz2 rfl (by decide) _ xs.length (valsLs xs) rfl (O9.alloc _) (w9.heap.size + 1) (some ⟨w9.heap.size, 0, none⟩) 1 1 [.int .i64 o, .int .i64 o2, .int .i64 x, .int .i64 y, .int .i64 (t : Int), .int .i64 ((t : Int) + (u : Int))] rfl ⟨rfl, fun _ => ⟨_, rfl, by simp, fun j_ z_ hz_ => new_cells w9 [.int .i64 o, .int .i64 o2, .int .i64 x, .int .i64 y, .int .i64 (t : Int), .int .i64 ((t : Int) + (u : Int))] 97 j_ z_ hz_⟩⟩ (valsLs_one [⟨o, o2, x, y, (t : Int), (t : Int) + (u : Int)⟩]) (by unfold maxLen; omega) (by omega) (by simp; omega) ?_; intro v' w10 hown' hg3 hat3; have B10 : Below w.heap.size w9 w10 := ((Below.refl _ w9).alloc B9 _).grown hg3 (by simp; omega) (fun q hq => (World.ownsRow.lt O9 q hq).1); have KK : (w10.cell? ⟨g9, 0, none⟩ = some (.int .i64 x) ∧ w10.cell? ⟨g9, 1, none⟩ = some (.int .i64 y)) ∧ w.grownBy w10 (some b) := ⟨⟨(hg3.cell_far ⟨g9, 0, none⟩ (World.block_lt_of_cell? _ _ hHeld.1.1) (fun e => NE.out e.symm)).trans hHeld.1.1, (hg3.cell_far ⟨g9, 1, none⟩ (World.block_lt_of_cell? _ _ hHeld.1.2) (fun e => NE.out e.symm)).trans hHeld.1.2⟩, (rd_end hb R9.out rfl G9.out B10).2⟩; refine hK.out _ _ (KK) (fun hHeld => ?_); clear hK K)
        try simp only [Act.put, List.setIfInBounds_toArray, List.set_cons_zero, List.set_cons_succ]
        refine wpAnyH_take (i := 14) (oi := ?oot45) (v := ?vvt45) ?hit45 (by kernel_rfl) ?h3t45 ?h4t45 ?h5t45 ?h6t45 (by assumption) ?h8t45
        case hit45 => (simp only [List.getElem?_toArray, List.getElem?_cons_succ, List.getElem?_cons_zero]; rfl)
        case h3t45 => kernel_rfl
        case h4t45 => kernel_rfl
        case h6t45 => (refine Or.inl ⟨by rfl, ?_⟩; intro w hSw; (try dsimp only at hSw); (go_simp <;> with_reducible rfl))
        case h5t45 => exact fun _ _ _ h => h
        try simp only [Act.put, List.setIfInBounds_toArray, List.set_cons_zero, List.set_cons_succ]
        refine wpAnyH_done (by kernel_rfl) ?_ _
        have O10 := own_snocLz (x := ⟨o, o2, x, y, (t : Int), (t : Int) + (u : Int)⟩) hown'
        obtain ⟨R14, G14⟩ := rd_end (P := P + 1 + 20 * ((xs.length + 1 : Nat) : Int)) hb (rd_up (P' := P + 1 + 20 * ((xs.length + 1 : Nat) : Int)) R9.out (by omega)) rfl G9.out B10
        have HF : Hid (OwnLz w10 w.heap.size v' (xs ++ [⟨o, o2, x, y, (t : Int), (t : Int) + (u : Int)⟩]) ∧ Rd w10 b (P + 1 + 20 * ((xs.length + 1 : Nat) : Int)) ∧ w.grownBy w10 (some b)) := ⟨O10, R14, G14⟩
        clear hown' hg3 hat3 KK O10 B10 R14 G14 O9 R9 G9 hHeld hR8 hG8 hR9 hG9 g8' g9' MK OU IU RU GW NE
        go_wp2_with fail
        go_roundw
        case rel => exact ⟨xs ++ [⟨o, o2, x, y, (t : Int), (t : Int) + (u : Int)⟩], c - 1, by omega, by rw [List.length_append]; show ((xs.length + 1 : Nat) : Int) + (c - 1) ≤ 3; omega, by go_num, HF.out.1, by rw [List.length_append]; exact HF.out.2.1, HF.out.2.2⟩
        case measure => simp [intOf]; omega
      | true =>
        rw [hv] at CV
        obtain ⟨d1, d2, n1, n2, _⟩ := (Wsh.vfB_iff sn sd).1 hv
        by_cases n0 : 0 < sn
        · go_wp2_with fail
          refine CV.mono ?_
          rintro e w5 ⟨rfl, C5⟩
          have R5 := rd_below R4 hbU4 C5
          have hb5 := Nat.lt_of_lt_of_le hbU4 C5.size
          replace s0 := (C5.cell (p := ⟨g8, 0, none⟩) s4).trans s0
          replace s1 := (C5.cell (p := ⟨g8, 1, none⟩) s4).trans s1
          replace s4 := Nat.lt_of_lt_of_le s4 C5.size
          replace K9 := K9.next C5
          replace G4 := g_trans G4 (g_below C5 _)
          clear CV C5 R4
          go_wp2_with fail
          refine (pick_any b _ 5 _ R5 (by omega)).mono ?_
          rintro e W ⟨p, rfl, hp, hR6, hG6⟩
          have hbW := Nat.lt_of_lt_of_le hb5 hG6.size
          obtain ⟨q0, q1, f0, f1, lt9⟩ := blk_two K9
          replace s0 := (g_cell hG6 (o := 0) s4 ne8).trans s0
          replace s1 := (g_cell hG6 (o := 1) s4 ne8).trans s1
          replace s4 := Nat.lt_of_lt_of_le s4 hG6.size
          replace f0 := (g_frozen hG6 (o := 0) lt9 ne9).trans f0
          replace f1 := (g_frozen hG6 (o := 1) lt9 ne9).trans f1
          replace q0 := (g_cell hG6 (o := 0) lt9 ne9).trans q0
          replace q1 := (g_cell hG6 (o := 1) lt9 ne9).trans q1
          replace lt9 := Nat.lt_of_lt_of_le lt9 hG6.size
          by_cases p0 : p = 0
          · have HRn : Hid (Rd W b (P + 1 + 20 * (xs.length : Int) + 12)) := rd_up hR6 (by omega)
            have Gr := Lib.hid (g_trans G4 hG6)
            have e1 : decide ((0 : Int) < (p : Int)) = false := decide_eq_false (by omega)
            generalize fx = x at q0
            generalize fy = y at q1
            clear R5 G4 K9 s0 s1 s4 hR6 hG6 f0 f1
            go_wp2_with fail
            refine (pick_any b _ 30 _ HRn.out (by omega)).mono ?_
            rintro e U ⟨t, rfl, ht, hRU, hGU⟩
            have hbU := Nat.lt_of_lt_of_le hbW hGU.size
            have GrU := g_trans Gr.out hGU
            have q0' := (g_cell hGU (o := 0) lt9 ne9).trans q0
            have q1' := (g_cell hGU (o := 1) lt9 ne9).trans q1
            have lt9U := Nat.lt_of_lt_of_le lt9 hGU.size
            have RU : Hid (Rd U.drew b (P + 1 + 20 * (xs.length : Int) + 13)) := rd_below (rd_up hRU (by omega)) hbU (Below.refl _ _).drew
            have GW := Lib.hid (g_trans HGr.out GrU)
            have IU : Hid (IsHs U.drew a hs) := hs_below (hs_grown HI.out ha hbb GW.out) (Below.refl _ _).drew
            have OU := Lib.hid (fun (V : World) (hV : U.grownBy V (some b)) => (World.ownsRow.kept HO.out (g_trans GrU hV) (.inr (by intro h; have := (World.ownsRow.lt HO.out b h).1; omega)) : OwnLz V w.heap.size (.slice vb xs.length vc) xs))
            have MK := Lib.hid (fun (V : World) (hV : U.grownBy V (some b)) => (⟨⟨(g_cell hV (o := 0) lt9U ne9).trans q0', (g_cell hV (o := 1) lt9U ne9).trans q1'⟩, g_trans GW.out hV⟩ : (V.cell? ⟨g9, 0, none⟩ = some (.int .i64 x) ∧ V.cell? ⟨g9, 1, none⟩ = some (.int .i64 y)) ∧ w.grownBy V (some b)))
            have NE : Hid ((Value.slice vb xs.length vc).ownBlock ≠ some g9) := fun h => by have := (World.ownsRow.lt HO.out g9 h).2; omega
            have hsU := GW.out.size
            clear hGU hRU GrU HRn Gr q0 q1
            go_wp2_with fail
            refine wp_region_held_drew (S := (fun w' => (w'.cell? ⟨g9, 0, none⟩ = some (.int .i64 x) ∧ w'.cell? ⟨g9, 1, none⟩ = some (.int .i64 y)) ∧ w.grownBy w' (some b))) (by kernel_rfl) ?_ (fun hHeld => ?_)
            · exact MK.out _ (g_of (Below.refl _ _).drew _)
            refine wpAnyH_take (i := 0) (oi := ?oot47) (v := ?vvt47) ?hit47 (by kernel_rfl) ?h3t47 ?h4t47 ?h5t47 ?h6t47 (by assumption) ?h8t47
            case hit47 => (simp only [List.getElem?_toArray, List.getElem?_cons_succ, List.getElem?_cons_zero]; rfl)
            case h3t47 => kernel_rfl
            case h4t47 => kernel_rfl
            case h6t47 => (refine Or.inl ⟨by rfl, ?_⟩; intro w hSw; (try dsimp only at hSw); (go_simp <;> with_reducible rfl))
            case h5t47 => exact fun _ _ _ h => h
            try simp only [Act.put, List.setIfInBounds_toArray, List.set_cons_zero, List.set_cons_succ]
            refine wpAnyH_take (i := 1) (oi := ?oot48) (v := ?vvt48) ?hit48 (by kernel_rfl) ?h3t48 ?h4t48 ?h5t48 ?h6t48 (by assumption) ?h8t48
            case hit48 => (simp only [List.getElem?_toArray, List.getElem?_cons_succ, List.getElem?_cons_zero]; rfl)
            case h3t48 => kernel_rfl
            case h4t48 => kernel_rfl
            case h6t48 => (refine Or.inl ⟨by rfl, ?_⟩; intro w hSw; (try dsimp only at hSw); (go_simp <;> with_reducible rfl))
            case h5t48 => exact fun _ _ _ h => h
            try simp only [Act.put, List.setIfInBounds_toArray, List.set_cons_zero, List.set_cons_succ]
            refine wpAnyH_take (i := 2) (oi := ?oot49) (v := ?vvt49) ?hit49 (by kernel_rfl) ?h3t49 ?h4t49 ?h5t49 ?h6t49 (by assumption) ?h8t49
            case hit49 => (simp only [List.getElem?_toArray, List.getElem?_cons_succ, List.getElem?_cons_zero]; rfl)
            case h3t49 => kernel_rfl
            case h4t49 => kernel_rfl
            case h6t49 => (refine Or.inl ⟨by rfl, ?_⟩; intro w hSw; (try dsimp only at hSw); (go_simp <;> with_reducible rfl))
            case h5t49 => exact fun _ _ _ h => h
            try simp only [Act.put, List.setIfInBounds_toArray, List.set_cons_zero, List.set_cons_succ]
            refine wpAnyH_take (i := 3) (oi := ?oot50) (v := ?vvt50) ?hit50 (by kernel_rfl) ?h3t50 ?h4t50 ?h5t50 ?h6t50 (by assumption) ?h8t50
            case hit50 => (simp only [List.getElem?_toArray, List.getElem?_cons_succ, List.getElem?_cons_zero]; rfl)
            case h3t50 => kernel_rfl
            case h4t50 => kernel_rfl
            case h6t50 => (refine Or.inl ⟨by rfl, ?_⟩; intro w hSw; (try dsimp only at hSw); (go_simp <;> with_reducible rfl))
            case h5t50 => exact fun _ _ _ h => h
            try simp only [Act.put, List.setIfInBounds_toArray, List.set_cons_zero, List.set_cons_succ]
            refine wpAnyH_take (i := 5) (oi := ?oot51) (v := ?vvt51) ?hit51 (by kernel_rfl) ?h3t51 ?h4t51 ?h5t51 ?h6t51 (by assumption) ?h8t51
            case hit51 => (simp only [List.getElem?_toArray, List.getElem?_cons_succ, List.getElem?_cons_zero]; rfl)
            case h3t51 => kernel_rfl
            case h4t51 => kernel_rfl
            case h6t51 => (refine Or.inl ⟨by rfl, ?_⟩; intro w hSw; (try dsimp only at hSw); (go_simp <;> with_reducible rfl))
            case h5t51 => exact fun _ _ _ h => h
            try simp only [Act.put, List.setIfInBounds_toArray, List.set_cons_zero, List.set_cons_succ]
            refine wpAnyH_take (i := 6) (oi := ?oot52) (v := ?vvt52) ?hit52 (by kernel_rfl) ?h3t52 ?h4t52 ?h5t52 ?h6t52 (by assumption) ?h8t52
            case hit52 => (simp only [List.getElem?_toArray, List.getElem?_cons_succ, List.getElem?_cons_zero]; rfl)
            case h3t52 => kernel_rfl
            case h4t52 => kernel_rfl
            case h6t52 => (refine Or.inl ⟨by rfl, ?_⟩; intro w hSw; (try dsimp only at hSw); (go_simp <;> with_reducible rfl))
            case h5t52 => exact fun _ _ _ h => h
            try simp only [Act.put, List.setIfInBounds_toArray, List.set_cons_zero, List.set_cons_succ]
            refine wpAnyH_take (i := 7) (oi := ?oot53) (v := ?vvt53) ?hit53 (by kernel_rfl) ?h3t53 ?h4t53 ?h5t53 ?h6t53 (by assumption) ?h8t53
            case hit53 => (simp only [List.getElem?_toArray, List.getElem?_cons_succ, List.getElem?_cons_zero]; rfl)
            case h3t53 => kernel_rfl
            case h4t53 => kernel_rfl
            case h6t53 => (refine Or.inl ⟨by rfl, ?_⟩; intro w hSw; (try dsimp only at hSw); (go_simp <;> with_reducible rfl))
            case h5t53 => exact fun _ _ _ h => h
            try simp only [Act.put, List.setIfInBounds_toArray, List.set_cons_zero, List.set_cons_succ]
            refine wpAnyH_take (i := 8) (oi := ?oot54) (v := ?vvt54) ?hit54 (by kernel_rfl) ?h3t54 ?h4t54 ?h5t54 ?h6t54 (by assumption) ?h8t54
            case hit54 => (simp only [List.getElem?_toArray, List.getElem?_cons_succ, List.getElem?_cons_zero]; rfl)
            case h3t54 => kernel_rfl
            case h4t54 => kernel_rfl
            case h6t54 => (refine Or.inl ⟨by rfl, ?_⟩; intro w hSw; (try dsimp only at hSw); (go_simp <;> with_reducible rfl))
            case h5t54 => exact fun _ _ _ h => h
            try simp only [Act.put, List.setIfInBounds_toArray, List.set_cons_zero, List.set_cons_succ]
            refine wpAnyH_ready (rs := [4]) (by kernel_rfl) (by simp) (AllReadyH.cons (o := ?oot55) ?hit55 (fun K hK => ?hkt55) AllReadyH.nil)
            rotate_left
            case hit55 => (simp only [List.getElem?_toArray, List.getElem?_cons_succ, List.getElem?_cons_zero]; rfl)
            (rw [if_pos (by rfl)]; go_simp; refine (anOwner b _ a cap base hs _ RU.out (by omega) hbU (IU.out) hl ha hbb).mono ?_; rintro e w8 ⟨o2, rfl, hR8, hG8⟩; have g8' := g_trans (g_of (Below.refl U.heap.size U).drew (some b)) hG8; have KK := MK.out _ g8'; have hb8 := Nat.lt_of_lt_of_le hbU hG8.size; go_wp2_with fail; refine hK.out _ _ (KK) (fun hHeld => ?_); clear hK K)
            try simp only [Act.put, List.setIfInBounds_toArray, List.set_cons_zero, List.set_cons_succ]
            refine wpAnyH_ready (rs := [9]) (by kernel_rfl) (by simp) (AllReadyH.cons (o := ?oot56) ?hit56 (fun K hK => ?hkt56) AllReadyH.nil)
            rotate_left
            case hit56 => (simp only [List.getElem?_toArray, List.getElem?_cons_succ, List.getElem?_cons_zero]; rfl)
            (rw [if_pos (by rfl)]; go_simp; refine (pick_any b _ 20 _ hR8 (by omega)).mono ?_; rintro e w9 ⟨u, rfl, hu, hR9, hG9⟩; have g9' := g_trans g8' hG9; have KK := MK.out _ g9'; have wt : IntKind.i64.wrap ((t : Int) + (u : Int)) = (t : Int) + (u : Int) := (by rw [IntKind.wrap_i64]; omega); go_wp2_with fail; refine hK.out _ _ (KK) (fun hHeld => ?_); clear hK K)
            try simp only [Act.put, List.setIfInBounds_toArray, List.set_cons_zero, List.set_cons_succ]
            refine wpAnyH_take (i := 10) (oi := ?oot57) (v := ?vvt57) ?hit57 (by kernel_rfl) ?h3t57 ?h4t57 ?h5t57 ?h6t57 (by assumption) ?h8t57
            case hit57 => (simp only [List.getElem?_toArray, List.getElem?_cons_succ, List.getElem?_cons_zero]; rfl)
            case h3t57 => kernel_rfl
            case h4t57 => kernel_rfl
            case h6t57 => (refine Or.inl ⟨by rfl, ?_⟩; intro w hSw; (try dsimp only at hSw); (go_simp <;> with_reducible rfl))
            case h5t57 => exact fun _ _ _ h => h
            try simp only [Act.put, List.setIfInBounds_toArray, List.set_cons_zero, List.set_cons_succ]
            refine wpAnyH_take (i := 11) (oi := ?oot58) (v := ?vvt58) ?hit58 (by kernel_rfl) ?h3t58 ?h4t58 ?h5t58 ?h6t58 (by assumption) ?h8t58
            case hit58 => (simp only [List.getElem?_toArray, List.getElem?_cons_succ, List.getElem?_cons_zero]; rfl)
            case h3t58 => kernel_rfl
            case h4t58 => kernel_rfl
            case h6t58 => (refine Or.inl ⟨by rfl, ?_⟩; intro w hSw; (try dsimp only at hSw); (go_simp <;> with_reducible rfl))
            case h5t58 => exact fun _ _ _ h => h
            try simp only [Act.put, List.setIfInBounds_toArray, List.set_cons_zero, List.set_cons_succ]
            refine wpAnyH_ready (rs := [12]) (by kernel_rfl) (by simp) (AllReadyH.cons (o := ?oot59) ?hit59 (fun K hK => ?hkt59) AllReadyH.nil)
            rotate_left
            case hit59 => (simp only [List.getElem?_toArray, List.getElem?_cons_succ, List.getElem?_cons_zero]; rfl)
            (rw [if_pos (by rfl)]; go_simp; have KK := MK.out _ (g_alloc g9' (.cells #[.int .i64 o, .int .i64 o2, .int .i64 x, .int .i64 y, .int .i64 (t : Int), .int .i64 ((t : Int) + (u : Int))] 97)); have B9 := Nat.le_trans GW.out.size g9'.size; have O9 := OU.out w9 g9'; have R9 := Lib.hid hR9; have G9 := Lib.hid (g_trans GW.out g9'); refine hK.out _ _ (KK) (fun hHeld => ?_); clear hK K)
            try simp only [Act.put, List.setIfInBounds_toArray, List.set_cons_zero, List.set_cons_succ]
            refine wpAnyH_ready (rs := [13]) (by kernel_rfl) (by simp) (AllReadyH.cons (o := ?oot60) ?hit60 (fun K hK => ?hkt60) AllReadyH.nil)
            rotate_left
            case hit60 => (simp only [List.getElem?_toArray, List.getElem?_cons_succ, List.getElem?_cons_zero]; rfl)
            (rw [if_pos (by rfl)]; refine wp_append_any (P := Try.prog) _ (.tmp 53) (.tmp 65) 32 rfl w.heap.size 97 i0 _ 6 48 Try.underlying32 hi0 hz0 hzz hz2 rfl (by decide) _ xs.length (valsLs xs) rfl (O9.alloc _) (w9.heap.size + 1) (some ⟨w9.heap.size, 0, none⟩) 1 1 [.int .i64 o, .int .i64 o2, .int .i64 x, .int .i64 y, .int .i64 (t : Int), .int .i64 ((t : Int) + (u : Int))] rfl ⟨rfl, fun _ => ⟨_, rfl, by simp, fun j_ z_ hz_ => new_cells w9 [.int .i64 o, .int .i64 o2, .int .i64 x, .int .i64 y, .int .i64 (t : Int), .int .i64 ((t : Int) + (u : Int))] 97 j_ z_ hz_⟩⟩ (valsLs_one [⟨o, o2, x, y, (t : Int), (t : Int) + (u : Int)⟩]) (by unfold maxLen; omega) (by omega) (by simp; omega) ?_; intro v' w10 hown' hg3 hat3; have B10 : Below w.heap.size w9 w10 := ((Below.refl _ w9).alloc B9 _).grown hg3 (by simp; omega) (fun q hq => (World.ownsRow.lt O9 q hq).1); have KK : (w10.cell? ⟨g9, 0, none⟩ = some (.int .i64 x) ∧ w10.cell? ⟨g9, 1, none⟩ = some (.int .i64 y)) ∧ w.grownBy w10 (some b) := ⟨⟨(hg3.cell_far ⟨g9, 0, none⟩ (World.block_lt_of_cell? _ _ hHeld.1.1) (fun e => NE.out e.symm)).trans hHeld.1.1, (hg3.cell_far ⟨g9, 1, none⟩ (World.block_lt_of_cell? _ _ hHeld.1.2) (fun e => NE.out e.symm)).trans hHeld.1.2⟩, (rd_end hb R9.out rfl G9.out B10).2⟩; refine hK.out _ _ (KK) (fun hHeld => ?_); clear hK K)
            try simp only [Act.put, List.setIfInBounds_toArray, List.set_cons_zero, List.set_cons_succ]
            refine wpAnyH_take (i := 14) (oi := ?oot61) (v := ?vvt61) ?hit61 (by kernel_rfl) ?h3t61 ?h4t61 ?h5t61 ?h6t61 (by assumption) ?h8t61
            case hit61 => (simp only [List.getElem?_toArray, List.getElem?_cons_succ, List.getElem?_cons_zero]; rfl)
            case h3t61 => kernel_rfl
            case h4t61 => kernel_rfl
            case h6t61 => (refine Or.inl ⟨by rfl, ?_⟩; intro w hSw; (try dsimp only at hSw); (go_simp <;> with_reducible rfl))
            case h5t61 => exact fun _ _ _ h => h
            try simp only [Act.put, List.setIfInBounds_toArray, List.set_cons_zero, List.set_cons_succ]
            refine wpAnyH_done (by kernel_rfl) ?_ _
            have O10 := own_snocLz (x := ⟨o, o2, x, y, (t : Int), (t : Int) + (u : Int)⟩) hown'
            obtain ⟨R14, G14⟩ := rd_end (P := P + 1 + 20 * ((xs.length + 1 : Nat) : Int)) hb (rd_up (P' := P + 1 + 20 * ((xs.length + 1 : Nat) : Int)) R9.out (by omega)) rfl G9.out B10
            have HF : Hid (OwnLz w10 w.heap.size v' (xs ++ [⟨o, o2, x, y, (t : Int), (t : Int) + (u : Int)⟩]) ∧ Rd w10 b (P + 1 + 20 * ((xs.length + 1 : Nat) : Int)) ∧ w.grownBy w10 (some b)) := ⟨O10, R14, G14⟩
            clear hown' hg3 hat3 KK O10 B10 R14 G14 O9 R9 G9 hHeld hR8 hG8 hR9 hG9 g8' g9' MK OU IU RU GW NE
            go_wp2_with fail
            go_roundw
            case rel => exact ⟨xs ++ [⟨o, o2, x, y, (t : Int), (t : Int) + (u : Int)⟩], c - 1, by omega, by rw [List.length_append]; show ((xs.length + 1 : Nat) : Int) + (c - 1) ≤ 3; omega, by go_num, HF.out.1, by rw [List.length_append]; exact HF.out.2.1, HF.out.2.2⟩
            case measure => simp [intOf]; omega
          · skip
            have GW9 := g_trans G4 hG6
            have K9W : Blk W g9 58 #[.int .i64 fx, .int .i64 fy] := (hG6.block g9 K9.lt (fun e => ne9 (Option.some.inj e))).trans K9
            have KB := Lib.hid (fun (V : World) (hV : W.grownBy V (some b)) => ((hV.block g9 lt9 (fun e => ne9 (Option.some.inj e))).trans K9W : Blk V g9 58 #[.int .i64 fx, .int .i64 fy]))
            have MK9 := Lib.hid (fun (V : World) (hV : W.grownBy V (some b)) => (⟨⟨(g_cell hV (o := 0) s4 ne8).trans s0, (g_cell hV (o := 1) s4 ne8).trans s1⟩, g_trans GW9 hV⟩ : (V.cell? ⟨g8, 0, none⟩ = some (.int .i64 sn) ∧ V.cell? ⟨g8, 1, none⟩ = some (.int .i64 sd)) ∧ wr.grownBy V (some b)))
            have e1 : decide ((0 : Int) < (p : Int)) = true := decide_eq_true (by omega)
            have e2 : decide (0 < p) = true := decide_eq_true (by omega)
            clear R5 K9 q0 q1 f0 f1
            go_wp2_with fail
            refine wp_region_held_drew (S := (fun w' => (w'.cell? ⟨g8, 0, none⟩ = some (.int .i64 sn) ∧ w'.cell? ⟨g8, 1, none⟩ = some (.int .i64 sd)) ∧ wr.grownBy w' (some b))) (by kernel_rfl) ?_ (fun hHeld => ?_)
            · exact MK9.out _ (g_of (Below.refl _ _).drew _)
            refine wpAnyH_take (i := 0) (oi := ?oot17) (v := ?vvt17) ?hit17 (by kernel_rfl) ?h3t17 ?h4t17 ?h5t17 ?h6t17 (by assumption) ?h8t17
            case hit17 => (simp only [List.getElem?_toArray, List.getElem?_cons_succ, List.getElem?_cons_zero]; rfl)
            case h3t17 => kernel_rfl
            case h4t17 => kernel_rfl
            case h6t17 => (refine Or.inl ⟨by rfl, ?_⟩; intro w hSw; (try dsimp only at hSw); (go_simp <;> with_reducible rfl))
            case h5t17 => exact fun _ _ _ h => h
            try simp only [Act.put, List.setIfInBounds_toArray, List.set_cons_zero, List.set_cons_succ]
            refine wpAnyH_take (i := 1) (oi := ?oot18) (v := ?vvt18) ?hit18 (by kernel_rfl) ?h3t18 ?h4t18 ?h5t18 ?h6t18 (by assumption) ?h8t18
            case hit18 => (simp only [List.getElem?_toArray, List.getElem?_cons_succ, List.getElem?_cons_zero]; rfl)
            case h3t18 => kernel_rfl
            case h4t18 => kernel_rfl
            case h6t18 => (refine Or.inl ⟨by rfl, ?_⟩; intro w hSw; (try dsimp only at hSw); (go_simp <;> with_reducible rfl))
            case h5t18 => exact fun _ _ _ h => h
            try simp only [Act.put, List.setIfInBounds_toArray, List.set_cons_zero, List.set_cons_succ]
            refine wpAnyH_take (i := 2) (oi := ?oot19) (v := ?vvt19) ?hit19 (by kernel_rfl) ?h3t19 ?h4t19 ?h5t19 ?h6t19 (by assumption) ?h8t19
            case hit19 => (simp only [List.getElem?_toArray, List.getElem?_cons_succ, List.getElem?_cons_zero]; rfl)
            case h3t19 => kernel_rfl
            case h4t19 => kernel_rfl
            case h6t19 => (refine Or.inl ⟨by rfl, ?_⟩; intro w hSw; (try dsimp only at hSw); (go_simp <;> with_reducible rfl))
            case h5t19 => exact fun _ _ _ h => h
            try simp only [Act.put, List.setIfInBounds_toArray, List.set_cons_zero, List.set_cons_succ]
            refine wpAnyH_take (i := 3) (oi := ?oot20) (v := ?vvt20) ?hit20 (by kernel_rfl) ?h3t20 ?h4t20 ?h5t20 ?h6t20 (by assumption) ?h8t20
            case hit20 => (simp only [List.getElem?_toArray, List.getElem?_cons_succ, List.getElem?_cons_zero]; rfl)
            case h3t20 => kernel_rfl
            case h4t20 => kernel_rfl
            case h6t20 => (refine Or.inl ⟨by rfl, ?_⟩; intro w hSw; (try dsimp only at hSw); (go_simp <;> with_reducible rfl))
            case h5t20 => exact fun _ _ _ h => h
            try simp only [Act.put, List.setIfInBounds_toArray, List.set_cons_zero, List.set_cons_succ]
            refine wpAnyH_take (i := 4) (oi := ?oot21) (v := ?vvt21) ?hit21 (by kernel_rfl) ?h3t21 ?h4t21 ?h5t21 ?h6t21 (by assumption) ?h8t21
            case hit21 => (simp only [List.getElem?_toArray, List.getElem?_cons_succ, List.getElem?_cons_zero]; rfl)
            case h3t21 => kernel_rfl
            case h4t21 => kernel_rfl
            case h6t21 => (refine Or.inl ⟨by rfl, ?_⟩; intro w hSw; (try dsimp only at hSw); (go_simp <;> with_reducible rfl))
            case h5t21 => exact fun _ _ _ h => h
            try simp only [Act.put, List.setIfInBounds_toArray, List.set_cons_zero, List.set_cons_succ]
            refine wpAnyH_ready (rs := [5]) (by kernel_rfl) (by simp) (AllReadyH.cons (o := ?oot22) ?hit22 (fun K hK => ?hkt22) AllReadyH.nil)
            rotate_left
            case hit22 => (simp only [List.getElem?_toArray, List.getElem?_cons_succ, List.getElem?_cons_zero]; rfl)
            (rw [if_pos (by rfl)]; go_simp; have KK := MK9.out _ (g_of (((Below.refl _ W).alloc (Nat.le_refl _) (.cells ([2, 1, 3].map (Value.int .i64)).toArray 3)).drew) (some b)); refine hK.out _ _ (KK) (fun hHeld => ?_); clear hK K)
            try simp only [Act.put, List.setIfInBounds_toArray, List.set_cons_zero, List.set_cons_succ]
            refine wpAnyH_ready (rs := [6]) (by kernel_rfl) (by simp) (AllReadyH.cons (o := ?oot23) ?hit23 (fun K hK => ?hkt23) AllReadyH.nil)
            rotate_left
            case hit23 => (simp only [List.getElem?_toArray, List.getElem?_cons_succ, List.getElem?_cons_zero]; rfl)
            (rw [if_pos (by rfl)]; go_simp; refine (one_any b W.heap.size 3 3 _ 1 3 _ (rd_below hR6 hbW (((Below.refl _ W).alloc (Nat.le_refl _) (.cells ([2, 1, 3].map (Value.int .i64)).toArray 3)).drew)) (by omega) (by omega) (by simp) (by omega) (by omega) (fun i hi => lit_cells W [2, 1, 3] 3 1 3 (by simp) i (by simpa using hi))).mono ?_; rintro e w7 ⟨z, rfl, z0, z1, hR7, hG7⟩; have g7' : W.grownBy w7 (some b) := g_trans (g_of (((Below.refl _ W).alloc (Nat.le_refl _) (.cells ([2, 1, 3].map (Value.int .i64)).toArray 3)).drew) (some b)) hG7; have hzz3 : z = 1 ∨ z = 2 ∨ z = 3 := (by omega); have bz : 1 ≤ sd * z ∧ sd * z ≤ 30000 := (by rcases hzz3 with h | h | h <;> rw [h] <;> omega); have ws : IntKind.i64.wrap (sd * z) = sd * z := (by rw [IntKind.wrap_i64]; omega); have KK := MK9.out _ g7'; go_wp2_with fail; refine hK.out _ _ (KK) (fun hHeld => ?_); clear hK K)
            try simp only [Act.put, List.setIfInBounds_toArray, List.set_cons_zero, List.set_cons_succ]
            refine wpAnyH_take (i := 7) (oi := ?oot24) (v := ?vvt24) ?hit24 (by kernel_rfl) ?h3t24 ?h4t24 ?h5t24 ?h6t24 (by assumption) ?h8t24
            case hit24 => (simp only [List.getElem?_toArray, List.getElem?_cons_succ, List.getElem?_cons_zero]; rfl)
            case h3t24 => kernel_rfl
            case h4t24 => kernel_rfl
            case h6t24 => (refine Or.inl ⟨by rfl, ?_⟩; intro w hSw; (try dsimp only at hSw); (go_simp <;> with_reducible rfl))
            case h5t24 => exact fun _ _ _ h => h
            try simp only [Act.put, List.setIfInBounds_toArray, List.set_cons_zero, List.set_cons_succ]
            refine wpAnyH_ready (rs := [8]) (by kernel_rfl) (by simp) (AllReadyH.cons (o := ?oot25) ?hit25 (fun K hK => ?hkt25) AllReadyH.nil)
            rotate_left
            case hit25 => (simp only [List.getElem?_toArray, List.getElem?_cons_succ, List.getElem?_cons_zero]; rfl)
            (rw [if_pos (by rfl)]; go_simp; refine (sred sn (sd * z) _ (by omega) (by omega) (by omega) (by omega)).mono ?_; rintro e w8 ⟨he, hb8⟩; obtain ⟨x, y, bb, hfr⟩ : ∃ x y bb, frV (Wsh.redB sn (sd * z)) (Wsh.rn sn (sd * z)) (Wsh.rd sn (sd * z)) = .tuple #[.agg #[.int .i64 x, .int .i64 y], .bool bb] := (by cases Wsh.redB sn (sd * z) <;> exact ⟨_, _, _, rfl⟩); rw [hfr] at he; subst he; have g8' := g_trans g7' (g_below hb8 (some b)); have R8 := rd_below hR7 (Nat.lt_of_lt_of_le hbW g7'.size) hb8; have K8' := KB.out _ g8'; have KK := MK9.out _ g8'; clear ws; go_wp2_with fail; refine hK.out _ _ (KK) (fun hHeld => ?_); clear hK K)
            try simp only [Act.put, List.setIfInBounds_toArray, List.set_cons_zero, List.set_cons_succ]
            refine wpAnyH_take (i := 9) (oi := ?oot26) (v := ?vvt26) ?hit26 (by kernel_rfl) ?h3t26 ?h4t26 ?h5t26 ?h6t26 (by assumption) ?h8t26
            case hit26 => (simp only [List.getElem?_toArray, List.getElem?_cons_succ, List.getElem?_cons_zero]; rfl)
            case h3t26 => kernel_rfl
            case h4t26 => kernel_rfl
            case h6t26 => (refine Or.inl ⟨by rfl, ?_⟩; intro w hSw; (try dsimp only at hSw); (go_simp <;> with_reducible rfl))
            case h5t26 => exact fun _ _ _ h => h
            try simp only [Act.put, List.setIfInBounds_toArray, List.set_cons_zero, List.set_cons_succ]
            refine wpAnyH_take (i := 10) (oi := ?oot27) (v := ?vvt27) ?hit27 (by kernel_rfl) ?h3t27 ?h4t27 ?h5t27 ?h6t27 (by assumption) ?h8t27
            case hit27 => (simp only [List.getElem?_toArray, List.getElem?_cons_succ, List.getElem?_cons_zero]; rfl)
            case h3t27 => kernel_rfl
            case h4t27 => kernel_rfl
            case h6t27 => (refine Or.inl ⟨by rfl, ?_⟩; intro w hSw; (try dsimp only at hSw); (go_simp <;> with_reducible rfl))
            case h5t27 => exact fun _ _ _ h => h
            try simp only [Act.put, List.setIfInBounds_toArray, List.set_cons_zero, List.set_cons_succ]
            refine wpAnyH_take (i := 11) (oi := ?oot28) (v := ?vvt28) ?hit28 (by kernel_rfl) ?h3t28 ?h4t28 ?h5t28 ?h6t28 (by assumption) ?h8t28
            case hit28 => (simp only [List.getElem?_toArray, List.getElem?_cons_succ, List.getElem?_cons_zero]; rfl)
            case h3t28 => kernel_rfl
            case h4t28 => kernel_rfl
            case h6t28 => (refine Or.inl ⟨by rfl, ?_⟩; intro w hSw; (try dsimp only at hSw); (go_simp <;> with_reducible rfl))
            case h5t28 => exact fun _ _ _ h => h
            try simp only [Act.put, List.setIfInBounds_toArray, List.set_cons_zero, List.set_cons_succ]
            refine wpAnyH_ready (rs := [12]) (by kernel_rfl) (by simp) (AllReadyH.cons (o := ?oot29) ?hit29 (fun K hK => ?hkt29) AllReadyH.nil)
            rotate_left
            case hit29 => (simp only [List.getElem?_toArray, List.getElem?_cons_succ, List.getElem?_cons_zero]; rfl)
            (rw [if_pos (by rfl)]; obtain ⟨qa, qb, fa, fb, lta⟩ := blk_two K8'; go_simp; have KK : (((w8.setCell ⟨g9, 0, none⟩ (.int .i64 x)).setCell ⟨g9, 1, none⟩ (.int .i64 y)).cell? ⟨g8, 0, none⟩ = some (.int .i64 sn) ∧ ((w8.setCell ⟨g9, 0, none⟩ (.int .i64 x)).setCell ⟨g9, 1, none⟩ (.int .i64 y)).cell? ⟨g8, 1, none⟩ = some (.int .i64 sd)) ∧ wr.grownBy ((w8.setCell ⟨g9, 0, none⟩ (.int .i64 x)).setCell ⟨g9, 1, none⟩ (.int .i64 y)) (some b) := ⟨⟨so (fun e => by injection e with e; omega) (so (fun e => by injection e with e; omega) hHeld.1.1), so (fun e => by injection e with e; omega) (so (fun e => by injection e with e; omega) hHeld.1.2)⟩, g_set (g_set hHeld.2 (.inr ge9) _) (.inr ge9) _⟩; refine hK.out _ _ (KK) (fun hHeld => ?_); clear hK K)
            try simp only [Act.put, List.setIfInBounds_toArray, List.set_cons_zero, List.set_cons_succ]
            refine wpAnyH_done (by kernel_rfl) ?_ _
            have K3 := Blk.two K8' (.int .i64 x) (.int .i64 y)
            have HRn0 : Rd ((w8.setCell ⟨g9, 0, none⟩ (.int .i64 x)).setCell ⟨g9, 1, none⟩ (.int .i64 y)) b (P + 1 + 20 * (xs.length : Int) + 12) := rd_below (rd_up R8 (by omega)) gb9 (((Below.refl g9 w8).setCell (p := ⟨g9, 0, none⟩) (Nat.le_refl _) _).setCell (p := ⟨g9, 1, none⟩) (Nat.le_refl _) _)
            have Gr0 := hHeld.2
            clear hHeld KK K8' R8 g8' hb8 hR7 hG7 g7' MK9 KB qa qb fa fb lta s0 s1
            generalize ((w8.setCell ⟨g9, 0, none⟩ (.int .i64 x)).setCell ⟨g9, 1, none⟩ (.int .i64 y)) = W2 at K3 HRn0 Gr0 ⊢
            obtain ⟨q0, q1, _, _, lt9⟩ := blk_two K3
            have HRn := Lib.hid HRn0
            have Gr := Lib.hid Gr0
            have hbW := Nat.lt_of_lt_of_le hbr Gr0.size
            clear K3 HRn0 Gr0
            go_wp2_with fail
            refine (pick_any b _ 30 _ HRn.out (by omega)).mono ?_
            rintro e U ⟨t, rfl, ht, hRU, hGU⟩
            have hbU := Nat.lt_of_lt_of_le hbW hGU.size
            have GrU := g_trans Gr.out hGU
            have q0' := (g_cell hGU (o := 0) lt9 ne9).trans q0
            have q1' := (g_cell hGU (o := 1) lt9 ne9).trans q1
            have lt9U := Nat.lt_of_lt_of_le lt9 hGU.size
            have RU : Hid (Rd U.drew b (P + 1 + 20 * (xs.length : Int) + 13)) := rd_below (rd_up hRU (by omega)) hbU (Below.refl _ _).drew
            have GW := Lib.hid (g_trans HGr.out GrU)
            have IU : Hid (IsHs U.drew a hs) := hs_below (hs_grown HI.out ha hbb GW.out) (Below.refl _ _).drew
            have OU := Lib.hid (fun (V : World) (hV : U.grownBy V (some b)) => (World.ownsRow.kept HO.out (g_trans GrU hV) (.inr (by intro h; have := (World.ownsRow.lt HO.out b h).1; omega)) : OwnLz V w.heap.size (.slice vb xs.length vc) xs))
            have MK := Lib.hid (fun (V : World) (hV : U.grownBy V (some b)) => (⟨⟨(g_cell hV (o := 0) lt9U ne9).trans q0', (g_cell hV (o := 1) lt9U ne9).trans q1'⟩, g_trans GW.out hV⟩ : (V.cell? ⟨g9, 0, none⟩ = some (.int .i64 x) ∧ V.cell? ⟨g9, 1, none⟩ = some (.int .i64 y)) ∧ w.grownBy V (some b)))
            have NE : Hid ((Value.slice vb xs.length vc).ownBlock ≠ some g9) := fun h => by have := (World.ownsRow.lt HO.out g9 h).2; omega
            have hsU := GW.out.size
            clear hGU hRU GrU HRn Gr q0 q1
            go_wp2_with fail
            refine wp_region_held_drew (S := (fun w' => (w'.cell? ⟨g9, 0, none⟩ = some (.int .i64 x) ∧ w'.cell? ⟨g9, 1, none⟩ = some (.int .i64 y)) ∧ w.grownBy w' (some b))) (by kernel_rfl) ?_ (fun hHeld => ?_)
            · exact MK.out _ (g_of (Below.refl _ _).drew _)
            refine wpAnyH_take (i := 0) (oi := ?oot1) (v := ?vvt1) ?hit1 (by kernel_rfl) ?h3t1 ?h4t1 ?h5t1 ?h6t1 (by assumption) ?h8t1
            case hit1 => (simp only [List.getElem?_toArray, List.getElem?_cons_succ, List.getElem?_cons_zero]; rfl)
            case h3t1 => kernel_rfl
            case h4t1 => kernel_rfl
            case h6t1 => (refine Or.inl ⟨by rfl, ?_⟩; intro w hSw; (try dsimp only at hSw); (go_simp <;> with_reducible rfl))
            case h5t1 => exact fun _ _ _ h => h
            try simp only [Act.put, List.setIfInBounds_toArray, List.set_cons_zero, List.set_cons_succ]
            refine wpAnyH_take (i := 1) (oi := ?oot2) (v := ?vvt2) ?hit2 (by kernel_rfl) ?h3t2 ?h4t2 ?h5t2 ?h6t2 (by assumption) ?h8t2
            case hit2 => (simp only [List.getElem?_toArray, List.getElem?_cons_succ, List.getElem?_cons_zero]; rfl)
            case h3t2 => kernel_rfl
            case h4t2 => kernel_rfl
            case h6t2 => (refine Or.inl ⟨by rfl, ?_⟩; intro w hSw; (try dsimp only at hSw); (go_simp <;> with_reducible rfl))
            case h5t2 => exact fun _ _ _ h => h
            try simp only [Act.put, List.setIfInBounds_toArray, List.set_cons_zero, List.set_cons_succ]
            refine wpAnyH_take (i := 2) (oi := ?oot3) (v := ?vvt3) ?hit3 (by kernel_rfl) ?h3t3 ?h4t3 ?h5t3 ?h6t3 (by assumption) ?h8t3
            case hit3 => (simp only [List.getElem?_toArray, List.getElem?_cons_succ, List.getElem?_cons_zero]; rfl)
            case h3t3 => kernel_rfl
            case h4t3 => kernel_rfl
            case h6t3 => (refine Or.inl ⟨by rfl, ?_⟩; intro w hSw; (try dsimp only at hSw); (go_simp <;> with_reducible rfl))
            case h5t3 => exact fun _ _ _ h => h
            try simp only [Act.put, List.setIfInBounds_toArray, List.set_cons_zero, List.set_cons_succ]
            refine wpAnyH_take (i := 3) (oi := ?oot4) (v := ?vvt4) ?hit4 (by kernel_rfl) ?h3t4 ?h4t4 ?h5t4 ?h6t4 (by assumption) ?h8t4
            case hit4 => (simp only [List.getElem?_toArray, List.getElem?_cons_succ, List.getElem?_cons_zero]; rfl)
            case h3t4 => kernel_rfl
            case h4t4 => kernel_rfl
            case h6t4 => (refine Or.inl ⟨by rfl, ?_⟩; intro w hSw; (try dsimp only at hSw); (go_simp <;> with_reducible rfl))
            case h5t4 => exact fun _ _ _ h => h
            try simp only [Act.put, List.setIfInBounds_toArray, List.set_cons_zero, List.set_cons_succ]
            refine wpAnyH_take (i := 5) (oi := ?oot5) (v := ?vvt5) ?hit5 (by kernel_rfl) ?h3t5 ?h4t5 ?h5t5 ?h6t5 (by assumption) ?h8t5
            case hit5 => (simp only [List.getElem?_toArray, List.getElem?_cons_succ, List.getElem?_cons_zero]; rfl)
            case h3t5 => kernel_rfl
            case h4t5 => kernel_rfl
            case h6t5 => (refine Or.inl ⟨by rfl, ?_⟩; intro w hSw; (try dsimp only at hSw); (go_simp <;> with_reducible rfl))
            case h5t5 => exact fun _ _ _ h => h
            try simp only [Act.put, List.setIfInBounds_toArray, List.set_cons_zero, List.set_cons_succ]
            refine wpAnyH_take (i := 6) (oi := ?oot6) (v := ?vvt6) ?hit6 (by kernel_rfl) ?h3t6 ?h4t6 ?h5t6 ?h6t6 (by assumption) ?h8t6
            case hit6 => (simp only [List.getElem?_toArray, List.getElem?_cons_succ, List.getElem?_cons_zero]; rfl)
            case h3t6 => kernel_rfl
            case h4t6 => kernel_rfl
            case h6t6 => (refine Or.inl ⟨by rfl, ?_⟩; intro w hSw; (try dsimp only at hSw); (go_simp <;> with_reducible rfl))
            case h5t6 => exact fun _ _ _ h => h
            try simp only [Act.put, List.setIfInBounds_toArray, List.set_cons_zero, List.set_cons_succ]
            refine wpAnyH_take (i := 7) (oi := ?oot7) (v := ?vvt7) ?hit7 (by kernel_rfl) ?h3t7 ?h4t7 ?h5t7 ?h6t7 (by assumption) ?h8t7
            case hit7 => (simp only [List.getElem?_toArray, List.getElem?_cons_succ, List.getElem?_cons_zero]; rfl)
            case h3t7 => kernel_rfl
            case h4t7 => kernel_rfl
            case h6t7 => (refine Or.inl ⟨by rfl, ?_⟩; intro w hSw; (try dsimp only at hSw); (go_simp <;> with_reducible rfl))
            case h5t7 => exact fun _ _ _ h => h
            try simp only [Act.put, List.setIfInBounds_toArray, List.set_cons_zero, List.set_cons_succ]
            refine wpAnyH_take (i := 8) (oi := ?oot8) (v := ?vvt8) ?hit8 (by kernel_rfl) ?h3t8 ?h4t8 ?h5t8 ?h6t8 (by assumption) ?h8t8
            case hit8 => (simp only [List.getElem?_toArray, List.getElem?_cons_succ, List.getElem?_cons_zero]; rfl)
            case h3t8 => kernel_rfl
            case h4t8 => kernel_rfl
            case h6t8 => (refine Or.inl ⟨by rfl, ?_⟩; intro w hSw; (try dsimp only at hSw); (go_simp <;> with_reducible rfl))
            case h5t8 => exact fun _ _ _ h => h
            try simp only [Act.put, List.setIfInBounds_toArray, List.set_cons_zero, List.set_cons_succ]
            refine wpAnyH_ready (rs := [4]) (by kernel_rfl) (by simp) (AllReadyH.cons (o := ?oot9) ?hit9 (fun K hK => ?hkt9) AllReadyH.nil)
            rotate_left
            case hit9 => (simp only [List.getElem?_toArray, List.getElem?_cons_succ, List.getElem?_cons_zero]; rfl)
            (rw [if_pos (by rfl)]; go_simp; refine (anOwner b _ a cap base hs _ RU.out (by omega) hbU (IU.out) hl ha hbb).mono ?_; rintro e w8 ⟨o2, rfl, hR8, hG8⟩; have g8' := g_trans (g_of (Below.refl U.heap.size U).drew (some b)) hG8; have KK := MK.out _ g8'; have hb8 := Nat.lt_of_lt_of_le hbU hG8.size; go_wp2_with fail; refine hK.out _ _ (KK) (fun hHeld => ?_); clear hK K)
            try simp only [Act.put, List.setIfInBounds_toArray, List.set_cons_zero, List.set_cons_succ]
            refine wpAnyH_ready (rs := [9]) (by kernel_rfl) (by simp) (AllReadyH.cons (o := ?oot10) ?hit10 (fun K hK => ?hkt10) AllReadyH.nil)
            rotate_left
            case hit10 => (simp only [List.getElem?_toArray, List.getElem?_cons_succ, List.getElem?_cons_zero]; rfl)
            (rw [if_pos (by rfl)]; go_simp; refine (pick_any b _ 20 _ hR8 (by omega)).mono ?_; rintro e w9 ⟨u, rfl, hu, hR9, hG9⟩; have g9' := g_trans g8' hG9; have KK := MK.out _ g9'; have wt : IntKind.i64.wrap ((t : Int) + (u : Int)) = (t : Int) + (u : Int) := (by rw [IntKind.wrap_i64]; omega); go_wp2_with fail; refine hK.out _ _ (KK) (fun hHeld => ?_); clear hK K)
            try simp only [Act.put, List.setIfInBounds_toArray, List.set_cons_zero, List.set_cons_succ]
            refine wpAnyH_take (i := 10) (oi := ?oot11) (v := ?vvt11) ?hit11 (by kernel_rfl) ?h3t11 ?h4t11 ?h5t11 ?h6t11 (by assumption) ?h8t11
            case hit11 => (simp only [List.getElem?_toArray, List.getElem?_cons_succ, List.getElem?_cons_zero]; rfl)
            case h3t11 => kernel_rfl
            case h4t11 => kernel_rfl
            case h6t11 => (refine Or.inl ⟨by rfl, ?_⟩; intro w hSw; (try dsimp only at hSw); (go_simp <;> with_reducible rfl))
            case h5t11 => exact fun _ _ _ h => h
            try simp only [Act.put, List.setIfInBounds_toArray, List.set_cons_zero, List.set_cons_succ]
            refine wpAnyH_take (i := 11) (oi := ?oot12) (v := ?vvt12) ?hit12 (by kernel_rfl) ?h3t12 ?h4t12 ?h5t12 ?h6t12 (by assumption) ?h8t12
            case hit12 => (simp only [List.getElem?_toArray, List.getElem?_cons_succ, List.getElem?_cons_zero]; rfl)
            case h3t12 => kernel_rfl
            case h4t12 => kernel_rfl
            case h6t12 => (refine Or.inl ⟨by rfl, ?_⟩; intro w hSw; (try dsimp only at hSw); (go_simp <;> with_reducible rfl))
            case h5t12 => exact fun _ _ _ h => h
            try simp only [Act.put, List.setIfInBounds_toArray, List.set_cons_zero, List.set_cons_succ]
            refine wpAnyH_ready (rs := [12]) (by kernel_rfl) (by simp) (AllReadyH.cons (o := ?oot13) ?hit13 (fun K hK => ?hkt13) AllReadyH.nil)
            rotate_left
            case hit13 => (simp only [List.getElem?_toArray, List.getElem?_cons_succ, List.getElem?_cons_zero]; rfl)
            (rw [if_pos (by rfl)]; go_simp; have KK := MK.out _ (g_alloc g9' (.cells #[.int .i64 o, .int .i64 o2, .int .i64 x, .int .i64 y, .int .i64 (t : Int), .int .i64 ((t : Int) + (u : Int))] 97)); have B9 := Nat.le_trans GW.out.size g9'.size; have O9 := OU.out w9 g9'; have R9 := Lib.hid hR9; have G9 := Lib.hid (g_trans GW.out g9'); refine hK.out _ _ (KK) (fun hHeld => ?_); clear hK K)
            try simp only [Act.put, List.setIfInBounds_toArray, List.set_cons_zero, List.set_cons_succ]
            refine wpAnyH_ready (rs := [13]) (by kernel_rfl) (by simp) (AllReadyH.cons (o := ?oot14) ?hit14 (fun K hK => ?hkt14) AllReadyH.nil)
            rotate_left
            case hit14 => (simp only [List.getElem?_toArray, List.getElem?_cons_succ, List.getElem?_cons_zero]; rfl)
            (rw [if_pos (by rfl)]; refine wp_append_any (P := Try.prog) _ (.tmp 53) (.tmp 65) 32 rfl w.heap.size 97 i0 _ 6 48 Try.underlying32 hi0 hz0 hzz hz2 rfl (by decide) _ xs.length (valsLs xs) rfl (O9.alloc _) (w9.heap.size + 1) (some ⟨w9.heap.size, 0, none⟩) 1 1 [.int .i64 o, .int .i64 o2, .int .i64 x, .int .i64 y, .int .i64 (t : Int), .int .i64 ((t : Int) + (u : Int))] rfl ⟨rfl, fun _ => ⟨_, rfl, by simp, fun j_ z_ hz_ => new_cells w9 [.int .i64 o, .int .i64 o2, .int .i64 x, .int .i64 y, .int .i64 (t : Int), .int .i64 ((t : Int) + (u : Int))] 97 j_ z_ hz_⟩⟩ (valsLs_one [⟨o, o2, x, y, (t : Int), (t : Int) + (u : Int)⟩]) (by unfold maxLen; omega) (by omega) (by simp; omega) ?_; intro v' w10 hown' hg3 hat3; have B10 : Below w.heap.size w9 w10 := ((Below.refl _ w9).alloc B9 _).grown hg3 (by simp; omega) (fun q hq => (World.ownsRow.lt O9 q hq).1); have KK : (w10.cell? ⟨g9, 0, none⟩ = some (.int .i64 x) ∧ w10.cell? ⟨g9, 1, none⟩ = some (.int .i64 y)) ∧ w.grownBy w10 (some b) := ⟨⟨(hg3.cell_far ⟨g9, 0, none⟩ (World.block_lt_of_cell? _ _ hHeld.1.1) (fun e => NE.out e.symm)).trans hHeld.1.1, (hg3.cell_far ⟨g9, 1, none⟩ (World.block_lt_of_cell? _ _ hHeld.1.2) (fun e => NE.out e.symm)).trans hHeld.1.2⟩, (rd_end hb R9.out rfl G9.out B10).2⟩; refine hK.out _ _ (KK) (fun hHeld => ?_); clear hK K)
            try simp only [Act.put, List.setIfInBounds_toArray, List.set_cons_zero, List.set_cons_succ]
            refine wpAnyH_take (i := 14) (oi := ?oot15) (v := ?vvt15) ?hit15 (by kernel_rfl) ?h3t15 ?h4t15 ?h5t15 ?h6t15 (by assumption) ?h8t15
            case hit15 => (simp only [List.getElem?_toArray, List.getElem?_cons_succ, List.getElem?_cons_zero]; rfl)
            case h3t15 => kernel_rfl
            case h4t15 => kernel_rfl
            case h6t15 => (refine Or.inl ⟨by rfl, ?_⟩; intro w hSw; (try dsimp only at hSw); (go_simp <;> with_reducible rfl))
            case h5t15 => exact fun _ _ _ h => h
            try simp only [Act.put, List.setIfInBounds_toArray, List.set_cons_zero, List.set_cons_succ]
            refine wpAnyH_done (by kernel_rfl) ?_ _
            have O10 := own_snocLz (x := ⟨o, o2, x, y, (t : Int), (t : Int) + (u : Int)⟩) hown'
            obtain ⟨R14, G14⟩ := rd_end (P := P + 1 + 20 * ((xs.length + 1 : Nat) : Int)) hb (rd_up (P' := P + 1 + 20 * ((xs.length + 1 : Nat) : Int)) R9.out (by omega)) rfl G9.out B10
            have HF : Hid (OwnLz w10 w.heap.size v' (xs ++ [⟨o, o2, x, y, (t : Int), (t : Int) + (u : Int)⟩]) ∧ Rd w10 b (P + 1 + 20 * ((xs.length + 1 : Nat) : Int)) ∧ w.grownBy w10 (some b)) := ⟨O10, R14, G14⟩
            clear hown' hg3 hat3 KK O10 B10 R14 G14 O9 R9 G9 hHeld hR8 hG8 hR9 hG9 g8' g9' MK OU IU RU GW NE
            go_wp2_with fail
            go_roundw
            case rel => exact ⟨xs ++ [⟨o, o2, x, y, (t : Int), (t : Int) + (u : Int)⟩], c - 1, by omega, by rw [List.length_append]; show ((xs.length + 1 : Nat) : Int) + (c - 1) ≤ 3; omega, by go_num, HF.out.1, by rw [List.length_append]; exact HF.out.2.1, HF.out.2.2⟩
            case measure => simp [intOf]; omega
        · go_wp2_with fail
          refine CV.mono ?_
          rintro e W ⟨rfl, C5⟩
          obtain ⟨q0, q1, _, _, lt9⟩ := blk_two (K9.next C5)
          have HRn : Hid (Rd W b (P + 1 + 20 * (xs.length : Int) + 12)) := rd_up (rd_below R4 hbU4 C5) (by omega)
          have Gr := Lib.hid (g_trans G4 (g_below C5 _))
          have hbW := Nat.lt_of_lt_of_le hbU4 C5.size
          replace s0 := (C5.cell (p := ⟨g8, 0, none⟩) s4).trans s0
          have n1' : decide (0 < sn) = false := decide_eq_false (by omega)
          generalize fx = x at q0
          generalize fy = y at q1
          clear R4 G4 C5 K9 s1 s4 CV
          go_wp2_with fail
          refine (pick_any b _ 30 _ HRn.out (by omega)).mono ?_
          rintro e U ⟨t, rfl, ht, hRU, hGU⟩
          have hbU := Nat.lt_of_lt_of_le hbW hGU.size
          have GrU := g_trans Gr.out hGU
          have q0' := (g_cell hGU (o := 0) lt9 ne9).trans q0
          have q1' := (g_cell hGU (o := 1) lt9 ne9).trans q1
          have lt9U := Nat.lt_of_lt_of_le lt9 hGU.size
          have RU : Hid (Rd U.drew b (P + 1 + 20 * (xs.length : Int) + 13)) := rd_below (rd_up hRU (by omega)) hbU (Below.refl _ _).drew
          have GW := Lib.hid (g_trans HGr.out GrU)
          have IU : Hid (IsHs U.drew a hs) := hs_below (hs_grown HI.out ha hbb GW.out) (Below.refl _ _).drew
          have OU := Lib.hid (fun (V : World) (hV : U.grownBy V (some b)) => (World.ownsRow.kept HO.out (g_trans GrU hV) (.inr (by intro h; have := (World.ownsRow.lt HO.out b h).1; omega)) : OwnLz V w.heap.size (.slice vb xs.length vc) xs))
          have MK := Lib.hid (fun (V : World) (hV : U.grownBy V (some b)) => (⟨⟨(g_cell hV (o := 0) lt9U ne9).trans q0', (g_cell hV (o := 1) lt9U ne9).trans q1'⟩, g_trans GW.out hV⟩ : (V.cell? ⟨g9, 0, none⟩ = some (.int .i64 x) ∧ V.cell? ⟨g9, 1, none⟩ = some (.int .i64 y)) ∧ w.grownBy V (some b)))
          have NE : Hid ((Value.slice vb xs.length vc).ownBlock ≠ some g9) := fun h => by have := (World.ownsRow.lt HO.out g9 h).2; omega
          have hsU := GW.out.size
          clear hGU hRU GrU HRn Gr q0 q1
          go_wp2_with fail
          refine wp_region_held_drew (S := (fun w' => (w'.cell? ⟨g9, 0, none⟩ = some (.int .i64 x) ∧ w'.cell? ⟨g9, 1, none⟩ = some (.int .i64 y)) ∧ w.grownBy w' (some b))) (by kernel_rfl) ?_ (fun hHeld => ?_)
          · exact MK.out _ (g_of (Below.refl _ _).drew _)
          refine wpAnyH_take (i := 0) (oi := ?oot63) (v := ?vvt63) ?hit63 (by kernel_rfl) ?h3t63 ?h4t63 ?h5t63 ?h6t63 (by assumption) ?h8t63
          case hit63 => (simp only [List.getElem?_toArray, List.getElem?_cons_succ, List.getElem?_cons_zero]; rfl)
          case h3t63 => kernel_rfl
          case h4t63 => kernel_rfl
          case h6t63 => (refine Or.inl ⟨by rfl, ?_⟩; intro w hSw; (try dsimp only at hSw); (go_simp <;> with_reducible rfl))
          case h5t63 => exact fun _ _ _ h => h
          try simp only [Act.put, List.setIfInBounds_toArray, List.set_cons_zero, List.set_cons_succ]
          refine wpAnyH_take (i := 1) (oi := ?oot64) (v := ?vvt64) ?hit64 (by kernel_rfl) ?h3t64 ?h4t64 ?h5t64 ?h6t64 (by assumption) ?h8t64
          case hit64 => (simp only [List.getElem?_toArray, List.getElem?_cons_succ, List.getElem?_cons_zero]; rfl)
          case h3t64 => kernel_rfl
          case h4t64 => kernel_rfl
          case h6t64 => (refine Or.inl ⟨by rfl, ?_⟩; intro w hSw; (try dsimp only at hSw); (go_simp <;> with_reducible rfl))
          case h5t64 => exact fun _ _ _ h => h
          try simp only [Act.put, List.setIfInBounds_toArray, List.set_cons_zero, List.set_cons_succ]
          refine wpAnyH_take (i := 2) (oi := ?oot65) (v := ?vvt65) ?hit65 (by kernel_rfl) ?h3t65 ?h4t65 ?h5t65 ?h6t65 (by assumption) ?h8t65
          case hit65 => (simp only [List.getElem?_toArray, List.getElem?_cons_succ, List.getElem?_cons_zero]; rfl)
          case h3t65 => kernel_rfl
          case h4t65 => kernel_rfl
          case h6t65 => (refine Or.inl ⟨by rfl, ?_⟩; intro w hSw; (try dsimp only at hSw); (go_simp <;> with_reducible rfl))
          case h5t65 => exact fun _ _ _ h => h
          try simp only [Act.put, List.setIfInBounds_toArray, List.set_cons_zero, List.set_cons_succ]
          refine wpAnyH_take (i := 3) (oi := ?oot66) (v := ?vvt66) ?hit66 (by kernel_rfl) ?h3t66 ?h4t66 ?h5t66 ?h6t66 (by assumption) ?h8t66
          case hit66 => (simp only [List.getElem?_toArray, List.getElem?_cons_succ, List.getElem?_cons_zero]; rfl)
          case h3t66 => kernel_rfl
          case h4t66 => kernel_rfl
          case h6t66 => (refine Or.inl ⟨by rfl, ?_⟩; intro w hSw; (try dsimp only at hSw); (go_simp <;> with_reducible rfl))
          case h5t66 => exact fun _ _ _ h => h
          try simp only [Act.put, List.setIfInBounds_toArray, List.set_cons_zero, List.set_cons_succ]
          refine wpAnyH_take (i := 5) (oi := ?oot67) (v := ?vvt67) ?hit67 (by kernel_rfl) ?h3t67 ?h4t67 ?h5t67 ?h6t67 (by assumption) ?h8t67
          case hit67 => (simp only [List.getElem?_toArray, List.getElem?_cons_succ, List.getElem?_cons_zero]; rfl)
          case h3t67 => kernel_rfl
          case h4t67 => kernel_rfl
          case h6t67 => (refine Or.inl ⟨by rfl, ?_⟩; intro w hSw; (try dsimp only at hSw); (go_simp <;> with_reducible rfl))
          case h5t67 => exact fun _ _ _ h => h
          try simp only [Act.put, List.setIfInBounds_toArray, List.set_cons_zero, List.set_cons_succ]
          refine wpAnyH_take (i := 6) (oi := ?oot68) (v := ?vvt68) ?hit68 (by kernel_rfl) ?h3t68 ?h4t68 ?h5t68 ?h6t68 (by assumption) ?h8t68
          case hit68 => (simp only [List.getElem?_toArray, List.getElem?_cons_succ, List.getElem?_cons_zero]; rfl)
          case h3t68 => kernel_rfl
          case h4t68 => kernel_rfl
          case h6t68 => (refine Or.inl ⟨by rfl, ?_⟩; intro w hSw; (try dsimp only at hSw); (go_simp <;> with_reducible rfl))
          case h5t68 => exact fun _ _ _ h => h
          try simp only [Act.put, List.setIfInBounds_toArray, List.set_cons_zero, List.set_cons_succ]
          refine wpAnyH_take (i := 7) (oi := ?oot69) (v := ?vvt69) ?hit69 (by kernel_rfl) ?h3t69 ?h4t69 ?h5t69 ?h6t69 (by assumption) ?h8t69
          case hit69 => (simp only [List.getElem?_toArray, List.getElem?_cons_succ, List.getElem?_cons_zero]; rfl)
          case h3t69 => kernel_rfl
          case h4t69 => kernel_rfl
          case h6t69 => (refine Or.inl ⟨by rfl, ?_⟩; intro w hSw; (try dsimp only at hSw); (go_simp <;> with_reducible rfl))
          case h5t69 => exact fun _ _ _ h => h
          try simp only [Act.put, List.setIfInBounds_toArray, List.set_cons_zero, List.set_cons_succ]
          refine wpAnyH_take (i := 8) (oi := ?oot70) (v := ?vvt70) ?hit70 (by kernel_rfl) ?h3t70 ?h4t70 ?h5t70 ?h6t70 (by assumption) ?h8t70
          case hit70 => (simp only [List.getElem?_toArray, List.getElem?_cons_succ, List.getElem?_cons_zero]; rfl)
          case h3t70 => kernel_rfl
          case h4t70 => kernel_rfl
          case h6t70 => (refine Or.inl ⟨by rfl, ?_⟩; intro w hSw; (try dsimp only at hSw); (go_simp <;> with_reducible rfl))
          case h5t70 => exact fun _ _ _ h => h
          try simp only [Act.put, List.setIfInBounds_toArray, List.set_cons_zero, List.set_cons_succ]
          refine wpAnyH_ready (rs := [4]) (by kernel_rfl) (by simp) (AllReadyH.cons (o := ?oot71) ?hit71 (fun K hK => ?hkt71) AllReadyH.nil)
          rotate_left
          case hit71 => (simp only [List.getElem?_toArray, List.getElem?_cons_succ, List.getElem?_cons_zero]; rfl)
          (rw [if_pos (by rfl)]; go_simp; refine (anOwner b _ a cap base hs _ RU.out (by omega) hbU (IU.out) hl ha hbb).mono ?_; rintro e w8 ⟨o2, rfl, hR8, hG8⟩; have g8' := g_trans (g_of (Below.refl U.heap.size U).drew (some b)) hG8; have KK := MK.out _ g8'; have hb8 := Nat.lt_of_lt_of_le hbU hG8.size; go_wp2_with fail; refine hK.out _ _ (KK) (fun hHeld => ?_); clear hK K)
          try simp only [Act.put, List.setIfInBounds_toArray, List.set_cons_zero, List.set_cons_succ]
          refine wpAnyH_ready (rs := [9]) (by kernel_rfl) (by simp) (AllReadyH.cons (o := ?oot72) ?hit72 (fun K hK => ?hkt72) AllReadyH.nil)
          rotate_left
          case hit72 => (simp only [List.getElem?_toArray, List.getElem?_cons_succ, List.getElem?_cons_zero]; rfl)
          (rw [if_pos (by rfl)]; go_simp; refine (pick_any b _ 20 _ hR8 (by omega)).mono ?_; rintro e w9 ⟨u, rfl, hu, hR9, hG9⟩; have g9' := g_trans g8' hG9; have KK := MK.out _ g9'; have wt : IntKind.i64.wrap ((t : Int) + (u : Int)) = (t : Int) + (u : Int) := (by rw [IntKind.wrap_i64]; omega); go_wp2_with fail; refine hK.out _ _ (KK) (fun hHeld => ?_); clear hK K)
          try simp only [Act.put, List.setIfInBounds_toArray, List.set_cons_zero, List.set_cons_succ]
          refine wpAnyH_take (i := 10) (oi := ?oot73) (v := ?vvt73) ?hit73 (by kernel_rfl) ?h3t73 ?h4t73 ?h5t73 ?h6t73 (by assumption) ?h8t73
          case hit73 => (simp only [List.getElem?_toArray, List.getElem?_cons_succ, List.getElem?_cons_zero]; rfl)
          case h3t73 => kernel_rfl
          case h4t73 => kernel_rfl
          case h6t73 => (refine Or.inl ⟨by rfl, ?_⟩; intro w hSw; (try dsimp only at hSw); (go_simp <;> with_reducible rfl))
          case h5t73 => exact fun _ _ _ h => h
          try simp only [Act.put, List.setIfInBounds_toArray, List.set_cons_zero, List.set_cons_succ]
          refine wpAnyH_take (i := 11) (oi := ?oot74) (v := ?vvt74) ?hit74 (by kernel_rfl) ?h3t74 ?h4t74 ?h5t74 ?h6t74 (by assumption) ?h8t74
          case hit74 => (simp only [List.getElem?_toArray, List.getElem?_cons_succ, List.getElem?_cons_zero]; rfl)
          case h3t74 => kernel_rfl
          case h4t74 => kernel_rfl
          case h6t74 => (refine Or.inl ⟨by rfl, ?_⟩; intro w hSw; (try dsimp only at hSw); (go_simp <;> with_reducible rfl))
          case h5t74 => exact fun _ _ _ h => h
          try simp only [Act.put, List.setIfInBounds_toArray, List.set_cons_zero, List.set_cons_succ]
          refine wpAnyH_ready (rs := [12]) (by kernel_rfl) (by simp) (AllReadyH.cons (o := ?oot75) ?hit75 (fun K hK => ?hkt75) AllReadyH.nil)
          rotate_left
          case hit75 => (simp only [List.getElem?_toArray, List.getElem?_cons_succ, List.getElem?_cons_zero]; rfl)
          (rw [if_pos (by rfl)]; go_simp; have KK := MK.out _ (g_alloc g9' (.cells #[.int .i64 o, .int .i64 o2, .int .i64 x, .int .i64 y, .int .i64 (t : Int), .int .i64 ((t : Int) + (u : Int))] 97)); have B9 := Nat.le_trans GW.out.size g9'.size; have O9 := OU.out w9 g9'; have R9 := Lib.hid hR9; have G9 := Lib.hid (g_trans GW.out g9'); refine hK.out _ _ (KK) (fun hHeld => ?_); clear hK K)
          try simp only [Act.put, List.setIfInBounds_toArray, List.set_cons_zero, List.set_cons_succ]
          refine wpAnyH_ready (rs := [13]) (by kernel_rfl) (by simp) (AllReadyH.cons (o := ?oot76) ?hit76 (fun K hK => ?hkt76) AllReadyH.nil)
          rotate_left
          case hit76 => (simp only [List.getElem?_toArray, List.getElem?_cons_succ, List.getElem?_cons_zero]; rfl)
          (rw [if_pos (by rfl)]; refine wp_append_any (P := Try.prog) _ (.tmp 53) (.tmp 65) 32 rfl w.heap.size 97 i0 _ 6 48 Try.underlying32 hi0 hz0 hzz hz2 rfl (by decide) _ xs.length (valsLs xs) rfl (O9.alloc _) (w9.heap.size + 1) (some ⟨w9.heap.size, 0, none⟩) 1 1 [.int .i64 o, .int .i64 o2, .int .i64 x, .int .i64 y, .int .i64 (t : Int), .int .i64 ((t : Int) + (u : Int))] rfl ⟨rfl, fun _ => ⟨_, rfl, by simp, fun j_ z_ hz_ => new_cells w9 [.int .i64 o, .int .i64 o2, .int .i64 x, .int .i64 y, .int .i64 (t : Int), .int .i64 ((t : Int) + (u : Int))] 97 j_ z_ hz_⟩⟩ (valsLs_one [⟨o, o2, x, y, (t : Int), (t : Int) + (u : Int)⟩]) (by unfold maxLen; omega) (by omega) (by simp; omega) ?_; intro v' w10 hown' hg3 hat3; have B10 : Below w.heap.size w9 w10 := ((Below.refl _ w9).alloc B9 _).grown hg3 (by simp; omega) (fun q hq => (World.ownsRow.lt O9 q hq).1); have KK : (w10.cell? ⟨g9, 0, none⟩ = some (.int .i64 x) ∧ w10.cell? ⟨g9, 1, none⟩ = some (.int .i64 y)) ∧ w.grownBy w10 (some b) := ⟨⟨(hg3.cell_far ⟨g9, 0, none⟩ (World.block_lt_of_cell? _ _ hHeld.1.1) (fun e => NE.out e.symm)).trans hHeld.1.1, (hg3.cell_far ⟨g9, 1, none⟩ (World.block_lt_of_cell? _ _ hHeld.1.2) (fun e => NE.out e.symm)).trans hHeld.1.2⟩, (rd_end hb R9.out rfl G9.out B10).2⟩; refine hK.out _ _ (KK) (fun hHeld => ?_); clear hK K)
          try simp only [Act.put, List.setIfInBounds_toArray, List.set_cons_zero, List.set_cons_succ]
          refine wpAnyH_take (i := 14) (oi := ?oot77) (v := ?vvt77) ?hit77 (by kernel_rfl) ?h3t77 ?h4t77 ?h5t77 ?h6t77 (by assumption) ?h8t77
          case hit77 => (simp only [List.getElem?_toArray, List.getElem?_cons_succ, List.getElem?_cons_zero]; rfl)
          case h3t77 => kernel_rfl
          case h4t77 => kernel_rfl
          case h6t77 => (refine Or.inl ⟨by rfl, ?_⟩; intro w hSw; (try dsimp only at hSw); (go_simp <;> with_reducible rfl))
          case h5t77 => exact fun _ _ _ h => h
          try simp only [Act.put, List.setIfInBounds_toArray, List.set_cons_zero, List.set_cons_succ]
          refine wpAnyH_done (by kernel_rfl) ?_ _
          have O10 := own_snocLz (x := ⟨o, o2, x, y, (t : Int), (t : Int) + (u : Int)⟩) hown'
          obtain ⟨R14, G14⟩ := rd_end (P := P + 1 + 20 * ((xs.length + 1 : Nat) : Int)) hb (rd_up (P' := P + 1 + 20 * ((xs.length + 1 : Nat) : Int)) R9.out (by omega)) rfl G9.out B10
          have HF : Hid (OwnLz w10 w.heap.size v' (xs ++ [⟨o, o2, x, y, (t : Int), (t : Int) + (u : Int)⟩]) ∧ Rd w10 b (P + 1 + 20 * ((xs.length + 1 : Nat) : Int)) ∧ w.grownBy w10 (some b)) := ⟨O10, R14, G14⟩
          clear hown' hg3 hat3 KK O10 B10 R14 G14 O9 R9 G9 hHeld hR8 hG8 hR9 hG9 g8' g9' MK OU IU RU GW NE
          go_wp2_with fail
          go_roundw
          case rel => exact ⟨xs ++ [⟨o, o2, x, y, (t : Int), (t : Int) + (u : Int)⟩], c - 1, by omega, by rw [List.length_append]; show ((xs.length + 1 : Nat) : Int) + (c - 1) ≤ 3; omega, by go_num, HF.out.1, by rw [List.length_append]; exact HF.out.2.1, HF.out.2.2⟩
          case measure => simp [intOf]; omega
    · obtain rfl : c = 0 := by omega
      have HF : Hid (Rd wr b (P + 61) ∧ w.grownBy wr (some b)) := ⟨rd_up hR (by omega), hG⟩
      clear hR hG hown
      go_wp2_with fail
      go_ret
      exact ⟨_, xs, rfl, by omega, HO.out, HF.out.1, HF.out.2⟩
end Go.Proofs.Ytaehemmjemhgpaa
