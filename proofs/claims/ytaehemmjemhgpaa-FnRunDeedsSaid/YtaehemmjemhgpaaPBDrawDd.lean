/- The deeds that the laws draw. Condition: the reader has read at most 50000 numbers before. -/
import Derived.Test.YtaehemmjemhgpaaPBG3
import Derived.Test.YtaehemmjemhgpaaPBG0
import Derived.Test.YtaehemmjemhgpaaPBG1
import Derived.Test.YtaehemmjemhgpaaPBDeed
import Derived.Deep.DeepCutAuto
import Derived.Deep.RegionHeld3
import Derived.Deep.QuietTactic
import Derived.BigQuiet
import Derived.RegionTactic
set_option maxRecDepth 100000
set_option maxHeartbeats 16000000
namespace Go.Proofs.Ytaehemmjemhgpaa
open Go.RowKit
set_option linter.unusedSimpArgs false
set_option linter.unusedVariables false

/-- what someDeed leaves -/
def SomeDd (w : World) (b : Nat) (P : Int) (e : Ending) (w' : World) : Prop := ∃ (A : Option Addr) (cz : Nat) (x : Dd), e = .returned (.agg #[.int .i64 x.k, .int .i64 x.o, .int .i64 x.t, .int .i64 x.n, .int .i64 x.d, .slice A x.zs.length cz]) ∧ x.zs.length ≤ 4 ∧ x.zs.length ≤ cz ∧ IsInts w' A x.zs ∧ (∀ ad, A = some ad → w.heap.size ≤ ad.block) ∧ Rd w' b (P + 60) ∧ w.grownBy w' (some b)
theorem someDd (b : Nat) (P : Int) (a : Option Addr) (cap base : Nat) (hs : List Hd) (w : World) (h : Rd w b P) (hP : P ≤ 50000) (hb : b < w.heap.size) (hi : IsHs w a hs) (hl : hs.length ≤ 1048576) (ha : ∀ ad, a = some ad → base ≤ ad.block) (hbb : b < base) :
    Calls Try.prog 55 #[.pointer (some ⟨b, 0, none⟩), .slice a hs.length cap] w (SomeDd w b P) := by
  have HI := Lib.hid hi
  have neR : w.heap.size ≠ b := by omega
  obtain ⟨w0, hw0⟩ : ∃ y, y = w.alloc (.cells #[.int .i64 0, .int .i64 0, .int .i64 0, .int .i64 0, .int .i64 0, .slice none 0 0] 61) := ⟨_, rfl⟩
  have KR : Blk w0 w.heap.size 61 #[.int .i64 0, .int .i64 0, .int .i64 0, .int .i64 0, .int .i64 0, .slice none 0 0] := by subst hw0; exact Blk.new _ _ _
  have R0 : Rd w0 b P := by subst hw0; exact rd_alloc h hb _
  have G0 : w.grownBy w0 (some b) := by subst hw0; exact g_alloc (g_of (Below.refl _ _) _) _
  have hb0 := Nat.lt_of_lt_of_le hb G0.size
  have HW0 := Lib.hid hw0
  clear hi h hw0
  go_enter Try.func55, Try.ntmps55
  go_upto_region 1 with fail
  rw [← HW0.out]
  go_wp2_with fail
  refine (anOwner b _ a cap base hs _ R0 (by omega) hb0 (hs_grown HI.out ha hbb G0) hl ha hbb).mono ?_
  rintro e w2 ⟨o, rfl, hR2, hG2⟩
  have hb2 := Nat.lt_of_lt_of_le hb0 hG2.size
  replace KR := blk_gr KR hG2 neR
  replace hG2 := g_trans G0 hG2
  clear R0 G0 HW0
  go_wp2_with fail
  refine (sshare a cap hs o _ (hs_grown HI.out ha hbb hG2) hl).mono ?_
  unfold ShareV
  rintro e w3 ⟨rfl, C3⟩
  generalize (shR hs o).1 = sn
  generalize (shR hs o).2 = sd
  have hb3 := Nat.lt_of_lt_of_le hb2 C3.size
  replace KR := KR.next C3
  have lR3 := KR.lt
  obtain ⟨U3, hU3⟩ : ∃ y, y = w3.alloc (.cells #[.int .i64 sn, .int .i64 sd] 58) := ⟨_, rfl⟩
  have K8 : Blk U3 w3.heap.size 58 #[.int .i64 sn, .int .i64 sd] := by subst hU3; exact Blk.new _ _ _
  replace KR : Blk U3 w.heap.size 61 #[.int .i64 0, .int .i64 0, .int .i64 0, .int .i64 0, .int .i64 0, .slice none 0 0] := by subst hU3; exact KR.alloc _
  have R3 : Rd U3 b (P + 3) := by subst hU3; exact rd_alloc (rd_below hR2 hb2 C3) hb3 _
  have G3 : w.grownBy U3 (some b) := by subst hU3; exact g_alloc (g_trans hG2 (g_below C3 _)) _
  have hbU3 : b < U3.heap.size := Nat.lt_of_lt_of_le hb G3.size
  have HU3 := Lib.hid hU3
  clear hR2 hG2 C3 hU3
  generalize hg8 : w3.heap.size = g8 at K8 lR3 ⊢
  have ne8 : g8 ≠ b := by omega
  clear hb3
  go_upto_region 3 with fail
  subst hg8
  rw [← HU3.out]
  generalize w3.heap.size = g8 at K8 ne8 lR3 ⊢
  go_wp2_with fail
  refine (someFrac_any b _ _ R3 (by omega) hbU3).mono ?_
  rintro e w4 ⟨fx, fy, rfl, _, _, _, _, hR4, hG4⟩
  have hb4 := Nat.lt_of_lt_of_le hbU3 hG4.size
  have l84 := Nat.lt_of_lt_of_le K8.lt hG4.size
  replace K8 := blk_gr K8 hG4 ne8
  replace KR := blk_gr KR hG4 neR
  have gb9 : b < w4.heap.size := hb4
  obtain ⟨U4, hU4⟩ : ∃ y, y = w4.alloc (.cells #[.int .i64 fx, .int .i64 fy] 58) := ⟨_, rfl⟩
  have K9 : Blk U4 w4.heap.size 58 #[.int .i64 fx, .int .i64 fy] := by subst hU4; exact Blk.new _ _ _
  replace K8 : Blk U4 g8 58 #[.int .i64 sn, .int .i64 sd] := by subst hU4; exact K8.alloc _
  replace KR : Blk U4 w.heap.size 61 #[.int .i64 0, .int .i64 0, .int .i64 0, .int .i64 0, .int .i64 0, .slice none 0 0] := by subst hU4; exact KR.alloc _
  have HU4 := Lib.hid hU4
  have R4 : Rd U4 b (P + 6) := by subst hU4; exact rd_alloc (rd_up hR4 (by omega)) hb4 _
  have G4 : w.grownBy U4 (some b) := by subst hU4; exact g_alloc (g_trans G3 hG4) _
  have ne9 : w4.heap.size ≠ b := by omega
  have ne98 : w4.heap.size ≠ g8 := by omega
  have neR9 : w4.heap.size ≠ w.heap.size := by omega
  have ge9 : w.heap.size ≤ w4.heap.size := (g_trans G3 hG4).size
  clear R3 G3 hR4 hG4 hU4 hbU3
  go_upto_region 4 with fail
  rw [← HU4.out]
  generalize w4.heap.size = g9 at K9 ne9 ge9 ne98 gb9 neR9 l84 ⊢
  clear HU4 hb4 HU3
  have CV := svalid sn sd U4
  have hbU4 := Nat.lt_of_lt_of_le hb G4.size
  go_cut [27] (fun s27 wx => ∃ c : Bool, s27 = .bool c ∧ (c = true → Wsh.vfB sn sd = true ∧ 0 < sn) ∧ Blk wx g8 58 #[.int .i64 sn, .int .i64 sd] ∧ Blk wx g9 58 #[.int .i64 fx, .int .i64 fy] ∧ Blk wx w.heap.size 61 #[.int .i64 0, .int .i64 0, .int .i64 0, .int .i64 0, .int .i64 0, .slice none 0 0] ∧ Rd wx b (P + 8) ∧ w.grownBy wx (some b))
  case first =>
    cases hv : Wsh.vfB sn sd with
    | false =>
      rw [hv] at CV
      obtain ⟨s0, s1, _, _, s4⟩ := blk_two K8
      have HF := Lib.hid (fun (W : World) (C : Below U4.heap.size U4 W) => (⟨K8.next C, K9.next C, KR.next C, rd_up (P' := P + 8) (rd_below R4 hbU4 C) (by omega), g_trans G4 (g_below C _)⟩ : Blk W g8 58 #[.int .i64 sn, .int .i64 sd] ∧ Blk W g9 58 #[.int .i64 fx, .int .i64 fy] ∧ Blk W w.heap.size 61 #[.int .i64 0, .int .i64 0, .int .i64 0, .int .i64 0, .int .i64 0, .slice none 0 0] ∧ Rd W b (P + 8) ∧ w.grownBy W (some b)))
      clear K8 K9 KR R4 G4 s4
      go_wp2_with fail
      refine CV.mono ?_
      rintro e W ⟨rfl, C5⟩
      go_wp2_with fail
      go_meet
      exact ⟨false, rfl, (fun c => by cases c), HF.out W C5⟩
    | true =>
      rw [hv] at CV
      obtain ⟨s0, s1, _, _, s4⟩ := blk_two K8
      have MC := Lib.hid (fun (W : World) (C : Below U4.heap.size U4 W) => (C.cell (p := ⟨g8, 0, none⟩) s4).trans s0)
      by_cases n0 : 0 < sn
      · have HF := Lib.hid (fun (W : World) (C : Below U4.heap.size U4 W) => (⟨K8.next C, K9.next C, KR.next C, rd_below R4 hbU4 C, g_trans G4 (g_below C _), Nat.lt_of_lt_of_le hbU4 C.size⟩ : Blk W g8 58 #[.int .i64 sn, .int .i64 sd] ∧ Blk W g9 58 #[.int .i64 fx, .int .i64 fy] ∧ Blk W w.heap.size 61 #[.int .i64 0, .int .i64 0, .int .i64 0, .int .i64 0, .int .i64 0, .slice none 0 0] ∧ Rd W b (P + 6) ∧ w.grownBy W (some b) ∧ b < W.heap.size))
        clear K8 K9 KR R4 G4 s4
        go_wp2_with fail
        refine CV.mono ?_
        rintro e W ⟨rfl, C5⟩
        have m0 := MC.out W C5
        clear s0 s1
        have e2 : decide (0 < sn) = true := decide_eq_true n0
        go_wp2_with fail
        refine (pick_any b _ 6 _ (HF.out W C5).2.2.2.1 (by omega)).mono ?_
        rintro e V ⟨p, rfl, hp, hRV, hGV⟩
        obtain ⟨a1, a2, a3, _, a5, a6⟩ := HF.out W C5
        have HE : Hid (Blk V g8 58 #[.int .i64 sn, .int .i64 sd] ∧ Blk V g9 58 #[.int .i64 fx, .int .i64 fy] ∧ Blk V w.heap.size 61 #[.int .i64 0, .int .i64 0, .int .i64 0, .int .i64 0, .int .i64 0, .slice none 0 0] ∧ Rd V b (P + 8) ∧ w.grownBy V (some b)) := ⟨blk_gr a1 hGV ne8, blk_gr a2 hGV ne9, blk_gr a3 hGV neR, rd_up hRV (by omega), g_trans a5 hGV⟩
        clear a1 a2 a3 a5 a6 hRV hGV m0
        by_cases p0 : p = 0
        · have e1 : decide ((0 : Int) < (p : Int)) = false := decide_eq_false (by omega)
          go_wp2_with fail
          go_meet
          exact ⟨false, rfl, (fun c => by cases c), HE.out⟩
        · have e1 : decide ((0 : Int) < (p : Int)) = true := decide_eq_true (by omega)
          have e3 : decide (0 < p) = true := decide_eq_true (by omega)
          go_wp2_with fail
          go_meet
          exact ⟨true, rfl, (fun _ => ⟨hv, n0⟩), HE.out⟩
      · have HF := Lib.hid (fun (W : World) (C : Below U4.heap.size U4 W) => (⟨K8.next C, K9.next C, KR.next C, rd_up (P' := P + 8) (rd_below R4 hbU4 C) (by omega), g_trans G4 (g_below C _)⟩ : Blk W g8 58 #[.int .i64 sn, .int .i64 sd] ∧ Blk W g9 58 #[.int .i64 fx, .int .i64 fy] ∧ Blk W w.heap.size 61 #[.int .i64 0, .int .i64 0, .int .i64 0, .int .i64 0, .int .i64 0, .slice none 0 0] ∧ Rd W b (P + 8) ∧ w.grownBy W (some b)))
        have n1' : decide (0 < sn) = false := decide_eq_false (by omega)
        clear K8 K9 KR R4 G4 s4
        go_wp2_with fail
        refine CV.mono ?_
        rintro e W ⟨rfl, C5⟩
        have m0 := MC.out W C5
        clear s0 s1
        go_wp2_with fail
        go_meet
        exact ⟨false, rfl, (fun c => by cases c), HF.out W C5⟩
  case rest =>
    clear K8 K9 KR R4 G4 CV hbU4
    obtain ⟨c, rfl, hcc, K8, K9, KR, hR6, G6⟩ := hcut
    obtain ⟨W, hW⟩ : ∃ W, W = wc := ⟨_, rfl⟩
    subst hW
    have hbW := Nat.lt_of_lt_of_le hb G6.size
    cases c with
    | true =>
      obtain ⟨hvf, n0⟩ := hcc rfl
      obtain ⟨d1, d2, n1, n2, _⟩ := (Wsh.vfB_iff sn sd).1 hvf
      have KB := Lib.hid (fun (V : World) (hV : W.grownBy V (some b)) => blk_gr K9 hV ne9)
      have KRB := Lib.hid (fun (V : World) (hV : W.grownBy V (some b)) => blk_gr KR hV neR)
      obtain ⟨s0, s1, _, _, s4⟩ := blk_two K8
      have MK9 := Lib.hid (fun (V : World) (hV : W.grownBy V (some b)) => (⟨⟨(g_cell hV (o := 0) s4 ne8).trans s0, (g_cell hV (o := 1) s4 ne8).trans s1⟩, g_trans G6 hV⟩ : (V.cell? ⟨g8, 0, none⟩ = some (.int .i64 sn) ∧ V.cell? ⟨g8, 1, none⟩ = some (.int .i64 sd)) ∧ w.grownBy V (some b)))
      clear K9 KR s0 s1 K8 hcc
      go_wp2_with fail
      refine wp_region_held_drew (S := (fun w' => (w'.cell? ⟨g8, 0, none⟩ = some (.int .i64 sn) ∧ w'.cell? ⟨g8, 1, none⟩ = some (.int .i64 sd)) ∧ w.grownBy w' (some b))) (by kernel_rfl) ?_ (fun hHeld => ?_)
      · exact MK9.out _ (g_of (Below.refl _ _).drew _)
      refine wpAnyH_take (i := 0) (oi := ?oot9) (v := ?vvt9) ?hit9 (by kernel_rfl) ?h3t9 ?h4t9 ?h5t9 ?h6t9 (by assumption) ?h8t9
      case hit9 => (simp only [List.getElem?_toArray, List.getElem?_cons_succ, List.getElem?_cons_zero]; rfl)
      case h3t9 => kernel_rfl
      case h4t9 => kernel_rfl
      case h6t9 => (refine Or.inl ⟨by rfl, ?_⟩; intro w hSw; (try dsimp only at hSw); (go_simp <;> with_reducible rfl))
      case h5t9 => exact fun _ _ _ h => h
      try simp only [Act.put, List.setIfInBounds_toArray, List.set_cons_zero, List.set_cons_succ]
      refine wpAnyH_take (i := 1) (oi := ?oot10) (v := ?vvt10) ?hit10 (by kernel_rfl) ?h3t10 ?h4t10 ?h5t10 ?h6t10 (by assumption) ?h8t10
      case hit10 => (simp only [List.getElem?_toArray, List.getElem?_cons_succ, List.getElem?_cons_zero]; rfl)
      case h3t10 => kernel_rfl
      case h4t10 => kernel_rfl
      case h6t10 => (refine Or.inl ⟨by rfl, ?_⟩; intro w hSw; (try dsimp only at hSw); (go_simp <;> with_reducible rfl))
      case h5t10 => exact fun _ _ _ h => h
      try simp only [Act.put, List.setIfInBounds_toArray, List.set_cons_zero, List.set_cons_succ]
      refine wpAnyH_take (i := 2) (oi := ?oot11) (v := ?vvt11) ?hit11 (by kernel_rfl) ?h3t11 ?h4t11 ?h5t11 ?h6t11 (by assumption) ?h8t11
      case hit11 => (simp only [List.getElem?_toArray, List.getElem?_cons_succ, List.getElem?_cons_zero]; rfl)
      case h3t11 => kernel_rfl
      case h4t11 => kernel_rfl
      case h6t11 => (refine Or.inl ⟨by rfl, ?_⟩; intro w hSw; (try dsimp only at hSw); (go_simp <;> with_reducible rfl))
      case h5t11 => exact fun _ _ _ h => h
      try simp only [Act.put, List.setIfInBounds_toArray, List.set_cons_zero, List.set_cons_succ]
      refine wpAnyH_take (i := 3) (oi := ?oot12) (v := ?vvt12) ?hit12 (by kernel_rfl) ?h3t12 ?h4t12 ?h5t12 ?h6t12 (by assumption) ?h8t12
      case hit12 => (simp only [List.getElem?_toArray, List.getElem?_cons_succ, List.getElem?_cons_zero]; rfl)
      case h3t12 => kernel_rfl
      case h4t12 => kernel_rfl
      case h6t12 => (refine Or.inl ⟨by rfl, ?_⟩; intro w hSw; (try dsimp only at hSw); (go_simp <;> with_reducible rfl))
      case h5t12 => exact fun _ _ _ h => h
      try simp only [Act.put, List.setIfInBounds_toArray, List.set_cons_zero, List.set_cons_succ]
      refine wpAnyH_take (i := 4) (oi := ?oot13) (v := ?vvt13) ?hit13 (by kernel_rfl) ?h3t13 ?h4t13 ?h5t13 ?h6t13 (by assumption) ?h8t13
      case hit13 => (simp only [List.getElem?_toArray, List.getElem?_cons_succ, List.getElem?_cons_zero]; rfl)
      case h3t13 => kernel_rfl
      case h4t13 => kernel_rfl
      case h6t13 => (refine Or.inl ⟨by rfl, ?_⟩; intro w hSw; (try dsimp only at hSw); (go_simp <;> with_reducible rfl))
      case h5t13 => exact fun _ _ _ h => h
      try simp only [Act.put, List.setIfInBounds_toArray, List.set_cons_zero, List.set_cons_succ]
      refine wpAnyH_ready (rs := [5]) (by kernel_rfl) (by simp) (AllReadyH.cons (o := ?oot14) ?hit14 (fun K hK => ?hkt14) AllReadyH.nil)
      rotate_left
      case hit14 => (simp only [List.getElem?_toArray, List.getElem?_cons_succ, List.getElem?_cons_zero]; rfl)
      (rw [if_pos (by rfl)]; go_simp; have KK := MK9.out _ (g_of (((Below.refl _ W).alloc (Nat.le_refl _) (.cells ([2, 1, 3].map (Value.int .i64)).toArray 3)).drew) (some b)); refine hK.out _ _ (KK) (fun hHeld => ?_); clear hK K)
      try simp only [Act.put, List.setIfInBounds_toArray, List.set_cons_zero, List.set_cons_succ]
      refine wpAnyH_ready (rs := [6]) (by kernel_rfl) (by simp) (AllReadyH.cons (o := ?oot15) ?hit15 (fun K hK => ?hkt15) AllReadyH.nil)
      rotate_left
      case hit15 => (simp only [List.getElem?_toArray, List.getElem?_cons_succ, List.getElem?_cons_zero]; rfl)
      (rw [if_pos (by rfl)]; go_simp; refine (one_any b W.heap.size 3 3 _ 1 3 _ (rd_below hR6 hbW (((Below.refl _ W).alloc (Nat.le_refl _) (.cells ([2, 1, 3].map (Value.int .i64)).toArray 3)).drew)) (by omega) (by omega) (by simp) (by omega) (by omega) (fun i hi => lit_cells W [2, 1, 3] 3 1 3 (by simp) i (by simpa using hi))).mono ?_; rintro e w7 ⟨z, rfl, z0, z1, hR7, hG7⟩; have g7' : W.grownBy w7 (some b) := g_trans (g_of (((Below.refl _ W).alloc (Nat.le_refl _) (.cells ([2, 1, 3].map (Value.int .i64)).toArray 3)).drew) (some b)) hG7; have hzz3 : z = 1 ∨ z = 2 ∨ z = 3 := (by omega); have bz : 1 ≤ sd * z ∧ sd * z ≤ 30000 := (by rcases hzz3 with h | h | h <;> rw [h] <;> omega); have ws : IntKind.i64.wrap (sd * z) = sd * z := (by rw [IntKind.wrap_i64]; omega); have KK := MK9.out _ g7'; go_wp2_with fail; refine hK.out _ _ (KK) (fun hHeld => ?_); clear hK K)
      try simp only [Act.put, List.setIfInBounds_toArray, List.set_cons_zero, List.set_cons_succ]
      refine wpAnyH_take (i := 7) (oi := ?oot16) (v := ?vvt16) ?hit16 (by kernel_rfl) ?h3t16 ?h4t16 ?h5t16 ?h6t16 (by assumption) ?h8t16
      case hit16 => (simp only [List.getElem?_toArray, List.getElem?_cons_succ, List.getElem?_cons_zero]; rfl)
      case h3t16 => kernel_rfl
      case h4t16 => kernel_rfl
      case h6t16 => (refine Or.inl ⟨by rfl, ?_⟩; intro w hSw; (try dsimp only at hSw); (go_simp <;> with_reducible rfl))
      case h5t16 => exact fun _ _ _ h => h
      try simp only [Act.put, List.setIfInBounds_toArray, List.set_cons_zero, List.set_cons_succ]
      refine wpAnyH_ready (rs := [8]) (by kernel_rfl) (by simp) (AllReadyH.cons (o := ?oot17) ?hit17 (fun K hK => ?hkt17) AllReadyH.nil)
      rotate_left
      case hit17 => (simp only [List.getElem?_toArray, List.getElem?_cons_succ, List.getElem?_cons_zero]; rfl)
      (rw [if_pos (by rfl)]; go_simp; refine (sred sn (sd * z) _ (by omega) (by omega) (by omega) (by omega)).mono ?_; rintro e w8 ⟨he, hb8⟩; obtain ⟨x, y, bb, hfr⟩ : ∃ x y bb, frV (Wsh.redB sn (sd * z)) (Wsh.rn sn (sd * z)) (Wsh.rd sn (sd * z)) = .tuple #[.agg #[.int .i64 x, .int .i64 y], .bool bb] := (by cases Wsh.redB sn (sd * z) <;> exact ⟨_, _, _, rfl⟩); rw [hfr] at he; subst he; have g8' := g_trans g7' (g_below hb8 (some b)); have R8 := rd_below hR7 (Nat.lt_of_lt_of_le hbW g7'.size) hb8; have K8' := KB.out _ g8'; have KR8 := KRB.out _ g8'; have KK := MK9.out _ g8'; clear ws; go_wp2_with fail; refine hK.out _ _ (KK) (fun hHeld => ?_); clear hK K)
      try simp only [Act.put, List.setIfInBounds_toArray, List.set_cons_zero, List.set_cons_succ]
      refine wpAnyH_take (i := 9) (oi := ?oot18) (v := ?vvt18) ?hit18 (by kernel_rfl) ?h3t18 ?h4t18 ?h5t18 ?h6t18 (by assumption) ?h8t18
      case hit18 => (simp only [List.getElem?_toArray, List.getElem?_cons_succ, List.getElem?_cons_zero]; rfl)
      case h3t18 => kernel_rfl
      case h4t18 => kernel_rfl
      case h6t18 => (refine Or.inl ⟨by rfl, ?_⟩; intro w hSw; (try dsimp only at hSw); (go_simp <;> with_reducible rfl))
      case h5t18 => exact fun _ _ _ h => h
      try simp only [Act.put, List.setIfInBounds_toArray, List.set_cons_zero, List.set_cons_succ]
      refine wpAnyH_take (i := 10) (oi := ?oot19) (v := ?vvt19) ?hit19 (by kernel_rfl) ?h3t19 ?h4t19 ?h5t19 ?h6t19 (by assumption) ?h8t19
      case hit19 => (simp only [List.getElem?_toArray, List.getElem?_cons_succ, List.getElem?_cons_zero]; rfl)
      case h3t19 => kernel_rfl
      case h4t19 => kernel_rfl
      case h6t19 => (refine Or.inl ⟨by rfl, ?_⟩; intro w hSw; (try dsimp only at hSw); (go_simp <;> with_reducible rfl))
      case h5t19 => exact fun _ _ _ h => h
      try simp only [Act.put, List.setIfInBounds_toArray, List.set_cons_zero, List.set_cons_succ]
      refine wpAnyH_take (i := 11) (oi := ?oot20) (v := ?vvt20) ?hit20 (by kernel_rfl) ?h3t20 ?h4t20 ?h5t20 ?h6t20 (by assumption) ?h8t20
      case hit20 => (simp only [List.getElem?_toArray, List.getElem?_cons_succ, List.getElem?_cons_zero]; rfl)
      case h3t20 => kernel_rfl
      case h4t20 => kernel_rfl
      case h6t20 => (refine Or.inl ⟨by rfl, ?_⟩; intro w hSw; (try dsimp only at hSw); (go_simp <;> with_reducible rfl))
      case h5t20 => exact fun _ _ _ h => h
      try simp only [Act.put, List.setIfInBounds_toArray, List.set_cons_zero, List.set_cons_succ]
      refine wpAnyH_ready (rs := [12]) (by kernel_rfl) (by simp) (AllReadyH.cons (o := ?oot21) ?hit21 (fun K hK => ?hkt21) AllReadyH.nil)
      rotate_left
      case hit21 => (simp only [List.getElem?_toArray, List.getElem?_cons_succ, List.getElem?_cons_zero]; rfl)
      (rw [if_pos (by rfl)]; obtain ⟨qa, qb, fa, fb, lta⟩ := blk_two K8'; go_simp; have KK : (((w8.setCell ⟨g9, 0, none⟩ (.int .i64 x)).setCell ⟨g9, 1, none⟩ (.int .i64 y)).cell? ⟨g8, 0, none⟩ = some (.int .i64 sn) ∧ ((w8.setCell ⟨g9, 0, none⟩ (.int .i64 x)).setCell ⟨g9, 1, none⟩ (.int .i64 y)).cell? ⟨g8, 1, none⟩ = some (.int .i64 sd)) ∧ w.grownBy ((w8.setCell ⟨g9, 0, none⟩ (.int .i64 x)).setCell ⟨g9, 1, none⟩ (.int .i64 y)) (some b) := ⟨⟨so (fun e => by injection e with e; omega) (so (fun e => by injection e with e; omega) hHeld.1.1), so (fun e => by injection e with e; omega) (so (fun e => by injection e with e; omega) hHeld.1.2)⟩, g_set (g_set hHeld.2 (.inr ge9) _) (.inr ge9) _⟩; refine hK.out _ _ (KK) (fun hHeld => ?_); clear hK K)
      try simp only [Act.put, List.setIfInBounds_toArray, List.set_cons_zero, List.set_cons_succ]
      refine wpAnyH_done (by kernel_rfl) ?_ _
      have K3 := Blk.two K8' (.int .i64 x) (.int .i64 y)
      have KR3 := (KR8.far (p := ⟨g9, 0, none⟩) (by show w.heap.size ≠ g9; omega) (.int .i64 x)).far (p := ⟨g9, 1, none⟩) (by show w.heap.size ≠ g9; omega) (.int .i64 y)
      have HRn0 : Rd ((w8.setCell ⟨g9, 0, none⟩ (.int .i64 x)).setCell ⟨g9, 1, none⟩ (.int .i64 y)) b (P + 20) := rd_below (rd_up R8 (by omega)) gb9 (((Below.refl g9 w8).setCell (p := ⟨g9, 0, none⟩) (Nat.le_refl _) _).setCell (p := ⟨g9, 1, none⟩) (Nat.le_refl _) _)
      have Gr0 := hHeld.2
      clear hHeld KK K8' R8 g8' hb8 hR7 hG7 g7' MK9 KB KRB KR8 qa qb fa fb lta
      generalize ((w8.setCell ⟨g9, 0, none⟩ (.int .i64 x)).setCell ⟨g9, 1, none⟩ (.int .i64 y)) = W2 at K3 KR3 HRn0 Gr0 ⊢
      have HRn := Lib.hid HRn0
      have Gr := Lib.hid Gr0
      have K9 := K3
      have KR := KR3
      clear K3 HRn0 Gr0 KR3
      go_wp2_with fail
      refine (pick_any b _ 4 _ HRn.out (by omega)).mono ?_
      rintro e U ⟨t, rfl, ht, hRU, hGU⟩
      have GrU := g_trans Gr.out hGU
      have hbU := Nat.lt_of_lt_of_le hb GrU.size
      replace KR := blk_gr KR hGU neR
      replace K9 := blk_gr K9 hGU ne9
      clear hGU Gr HRn
      by_cases t0 : t = 0
      · have e0 : ((t : Int) == 0) = true := by simp [t0]
        clear t0 ht K9
        go_wp2_with fail
        refine (someZ b _ a cap base hs _ hRU (by omega) hbU (hs_grown HI.out ha hbb GrU) hl ha hbb).mono ?_
        rintro e V ⟨A, cz, zs, rfl, z4, zc, zI, zab, hRV, hGV⟩
        have HK := Lib.hid (blk_gr KR hGV neR)
        have lR := KR.lt
        have GV := g_trans GrU hGV
        have HZ : Hid (zs.length ≤ 4 ∧ zs.length ≤ cz ∧ IsInts V A zs ∧ ∀ ad, A = some ad → U.heap.size ≤ ad.block) := ⟨z4, zc, zI, zab⟩
        have HG := Lib.hid (And.intro (rd_up (P' := P + 60) hRV (by omega)) GV)
        clear zI zab z4 zc hRV hGV GV KR hRU GrU
        obtain ⟨y1, hy⟩ : ∃ Y_, Y_ = sets6 V w.heap.size (.int .i64 1) (.int .i64 o) (.int .i64 0) (.int .i64 0) (.int .i64 0) (.slice A zs.length cz) := ⟨_, rfl⟩
        have KF := sets6_blk (v0 := .int .i64 1) (v1 := .int .i64 o) (v2 := .int .i64 0) (v3 := .int .i64 0) (v4 := .int .i64 0) (v5 := .slice A zs.length cz) HK.out
        rw [← hy] at KF
        obtain ⟨z0, z1, z2, z3, z4, z5⟩ := cells6 KF
        have HF := Lib.hid (show Rd y1 b (P + 60) ∧ w.grownBy y1 (some b) by subst hy; exact rd_fin (g := 0) HG.out.1 hb HG.out.2 (sets6_at (Nat.le_refl _) _ _ _ _ _ _))
        have HZF := Lib.hid (show IsInts y1 A zs by subst hy; exact ints_off HZ.out.2.2.1 HZ.out.2.2.2 lR (fun g hn => sets6_other hn _ _ _ _ _ _))
        have HY := Lib.hid hy
        clear KF hy
        go_wp2_with (first | (show wpList _ _ _ ({ dst := _, op := Op.store _ _ _, type := _, pos := _, after := _, guard := _ } :: _) _ _; refine wpList_str6 rfl _ _ _ rfl w.heap.size (.int .i64 1) (.int .i64 o) (.int .i64 0) (.int .i64 0) (.int .i64 0) (.slice A zs.length cz) rfl rfl HK.out (by kernel_rfl) rfl ?_; rw [← HY.out]))
        refine bodyPost_ret (v := .agg #[.int .i64 1, .int .i64 o, .int .i64 0, .int .i64 0, .int .i64 0, .slice A zs.length cz]) (by simp [results, Try.results55, go_sem, z0, z1, z2, z3, z4, z5]) rfl ⟨A, cz, ⟨1, o, 0, 0, 0, zs⟩, rfl, HZ.out.1, HZ.out.2.1, HZF.out, (fun ad e => Nat.le_trans (Nat.le_of_lt lR) (HZ.out.2.2.2 ad e)), HF.out.1, HF.out.2⟩
      · have e0 : ((t : Int) == 0) = false := by simp; omega
        by_cases t1 : t = 1
        · have e1 : ((t : Int) == 1) = true := by simp [t1]
          clear t0 t1 ht K9
          go_wp2_with fail
          refine (anOwner b _ a cap base hs _ hRU (by omega) hbU (hs_grown HI.out ha hbb GrU) hl ha hbb).mono ?_
          rintro e V ⟨q, rfl, hRV, hGV⟩
          have HK := Lib.hid (blk_gr KR hGV neR)
          have HG := Lib.hid (And.intro (rd_up (P' := P + 60) hRV (by omega)) (g_trans GrU hGV))
          clear hRV hGV KR hRU GrU
          obtain ⟨y1, hy⟩ : ∃ Y_, Y_ = sets6 V w.heap.size (.int .i64 2) (.int .i64 o) (.int .i64 q) (.int .i64 0) (.int .i64 0) (.slice none 0 0) := ⟨_, rfl⟩
          have KF := sets6_blk (v0 := .int .i64 2) (v1 := .int .i64 o) (v2 := .int .i64 q) (v3 := .int .i64 0) (v4 := .int .i64 0) (v5 := .slice none 0 0) HK.out
          rw [← hy] at KF
          obtain ⟨z0, z1, z2, z3, z4, z5⟩ := cells6 KF
          have HF := Lib.hid (show Rd y1 b (P + 60) ∧ w.grownBy y1 (some b) by subst hy; exact rd_fin (g := 0) HG.out.1 hb HG.out.2 (sets6_at (Nat.le_refl _) _ _ _ _ _ _))
          have HY := Lib.hid hy
          clear KF hy
          go_wp2_with (first | (show wpList _ _ _ ({ dst := _, op := Op.store _ _ _, type := _, pos := _, after := _, guard := _ } :: _) _ _; refine wpList_str6 rfl _ _ _ rfl w.heap.size (.int .i64 2) (.int .i64 o) (.int .i64 q) (.int .i64 0) (.int .i64 0) (.slice none 0 0) rfl rfl HK.out (by kernel_rfl) rfl ?_; rw [← HY.out]))
          refine bodyPost_ret (v := .agg #[.int .i64 2, .int .i64 o, .int .i64 q, .int .i64 0, .int .i64 0, .slice none 0 0]) (by simp [results, Try.results55, go_sem, z0, z1, z2, z3, z4, z5]) rfl ⟨none, 0, ⟨2, o, q, 0, 0, []⟩, rfl, (by simp), (by simp), .inl rfl, (fun ad e => by cases e), HF.out.1, HF.out.2⟩
        · have e1 : ((t : Int) == 1) = false := by simp; omega
          clear t0 t1 ht
          obtain ⟨q0, q1, _, _, lt9⟩ := blk_two K9
          have RU : Hid (Rd U.drew b (P + 21)) := rd_up (rd_below hRU hbU (Below.refl _ _).drew) (by omega)
          have GU := Lib.hid GrU
          have IU : Hid (IsHs U.drew a hs) := hs_below (hs_grown HI.out ha hbb GrU) (Below.refl _ _).drew
          have KRU := Lib.hid (fun (V : World) (hV : U.grownBy V (some b)) => blk_gr KR hV neR)
          have MK := Lib.hid (fun (V : World) (hV : U.grownBy V (some b)) => (⟨⟨(g_cell hV (o := 0) lt9 ne9).trans q0, (g_cell hV (o := 1) lt9 ne9).trans q1⟩, g_trans GrU hV⟩ : (V.cell? ⟨g9, 0, none⟩ = some (.int .i64 x) ∧ V.cell? ⟨g9, 1, none⟩ = some (.int .i64 y)) ∧ w.grownBy V (some b)))
          clear hRU GrU KR K9 q0 q1
          go_wp2_with fail
          refine wp_region_held_drew (S := (fun w' => (w'.cell? ⟨g9, 0, none⟩ = some (.int .i64 x) ∧ w'.cell? ⟨g9, 1, none⟩ = some (.int .i64 y)) ∧ w.grownBy w' (some b))) (by kernel_rfl) ?_ (fun hHeld => ?_)
          · exact MK.out _ (g_of (Below.refl _ _).drew _)
          refine wpAnyH_take (i := 0) (oi := ?oot1) (v := ?vvt1) ?hit1 (by kernel_rfl) ?h3t1 ?h4t1 ?h5t1 ?h6t1 (by assumption) ?h8t1
          case hit1 => (simp only [List.getElem?_toArray, List.getElem?_cons_succ, List.getElem?_cons_zero]; rfl)
          case h3t1 => kernel_rfl
          case h4t1 => kernel_rfl
          case h6t1 => (refine Or.inl ⟨by rfl, ?_⟩; intro w hSw; (try dsimp only at hSw); (go_simp <;> with_reducible rfl))
          case h5t1 => exact fun _ _ _ h => h
          try simp only [Act.put, List.setIfInBounds_toArray, List.set_cons_zero, List.set_cons_succ]
          refine wpAnyH_take (i := 1) (oi := ?oot2) (v := ?vvt2) ?hit2 (by kernel_rfl) ?h3t2 ?h4t2 ?h5t2 ?h6t2 (by assumption) ?h8t2
          case hit2 => (simp only [List.getElem?_toArray, List.getElem?_cons_succ, List.getElem?_cons_zero]; rfl)
          case h3t2 => kernel_rfl
          case h4t2 => kernel_rfl
          case h6t2 => (refine Or.inl ⟨by rfl, ?_⟩; intro w hSw; (try dsimp only at hSw); (go_simp <;> with_reducible rfl))
          case h5t2 => exact fun _ _ _ h => h
          try simp only [Act.put, List.setIfInBounds_toArray, List.set_cons_zero, List.set_cons_succ]
          refine wpAnyH_take (i := 2) (oi := ?oot3) (v := ?vvt3) ?hit3 (by kernel_rfl) ?h3t3 ?h4t3 ?h5t3 ?h6t3 (by assumption) ?h8t3
          case hit3 => (simp only [List.getElem?_toArray, List.getElem?_cons_succ, List.getElem?_cons_zero]; rfl)
          case h3t3 => kernel_rfl
          case h4t3 => kernel_rfl
          case h6t3 => (refine Or.inl ⟨by rfl, ?_⟩; intro w hSw; (try dsimp only at hSw); (go_simp <;> with_reducible rfl))
          case h5t3 => exact fun _ _ _ h => h
          try simp only [Act.put, List.setIfInBounds_toArray, List.set_cons_zero, List.set_cons_succ]
          refine wpAnyH_take (i := 4) (oi := ?oot4) (v := ?vvt4) ?hit4 (by kernel_rfl) ?h3t4 ?h4t4 ?h5t4 ?h6t4 (by assumption) ?h8t4
          case hit4 => (simp only [List.getElem?_toArray, List.getElem?_cons_succ, List.getElem?_cons_zero]; rfl)
          case h3t4 => kernel_rfl
          case h4t4 => kernel_rfl
          case h6t4 => (refine Or.inl ⟨by rfl, ?_⟩; intro w hSw; (try dsimp only at hSw); (go_simp <;> with_reducible rfl))
          case h5t4 => exact fun _ _ _ h => h
          try simp only [Act.put, List.setIfInBounds_toArray, List.set_cons_zero, List.set_cons_succ]
          refine wpAnyH_ready (rs := [3]) (by kernel_rfl) (by simp) (AllReadyH.cons (o := ?oot5) ?hit5 (fun K hK => ?hkt5) AllReadyH.nil)
          rotate_left
          case hit5 => (simp only [List.getElem?_toArray, List.getElem?_cons_succ, List.getElem?_cons_zero]; rfl)
          (rw [if_pos (by rfl)]; go_simp; refine (anOwner b _ a cap base hs _ RU.out (by omega) hbU (IU.out) hl ha hbb).mono ?_; rintro e V ⟨q, rfl, hRV, hGV⟩; have gV := g_trans (g_of (Below.refl U.heap.size U).drew (some b)) hGV; have KRV := Lib.hid (KRU.out _ gV); have HG := Lib.hid (And.intro (rd_up (P' := P + 60) hRV (by omega)) (g_trans GU.out gV)); have KK := MK.out _ gV; go_wp2_with fail; refine hK.out _ _ (KK) (fun hHeld => ?_); clear hK K)
          try simp only [Act.put, List.setIfInBounds_toArray, List.set_cons_zero, List.set_cons_succ]
          refine wpAnyH_take (i := 5) (oi := ?oot6) (v := ?vvt6) ?hit6 (by kernel_rfl) ?h3t6 ?h4t6 ?h5t6 ?h6t6 (by assumption) ?h8t6
          case hit6 => (simp only [List.getElem?_toArray, List.getElem?_cons_succ, List.getElem?_cons_zero]; rfl)
          case h3t6 => kernel_rfl
          case h4t6 => kernel_rfl
          case h6t6 => (refine Or.inl ⟨by rfl, ?_⟩; intro w hSw; (try dsimp only at hSw); (go_simp <;> with_reducible rfl))
          case h5t6 => exact fun _ _ _ h => h
          try simp only [Act.put, List.setIfInBounds_toArray, List.set_cons_zero, List.set_cons_succ]
          refine wpAnyH_ready (rs := [6]) (by kernel_rfl) (by simp) (AllReadyH.cons (o := ?oot7) ?hit7 (fun K hK => ?hkt7) AllReadyH.nil)
          rotate_left
          case hit7 => (simp only [List.getElem?_toArray, List.getElem?_cons_succ, List.getElem?_cons_zero]; rfl)
          (rw [if_pos (by rfl)]; obtain ⟨fc0, fc1, fc2, fc3, fc4, fc5⟩ := cells6 KRV.out; have ff0 := KRV.out.frozen 0; have ff1 := KRV.out.frozen 1; have ff2 := KRV.out.frozen 2; have ff3 := KRV.out.frozen 3; have ff4 := KRV.out.frozen 4; have ff5 := KRV.out.frozen 5; go_simp; obtain ⟨y1, hy⟩ : ∃ Y_, Y_ = sets6 V w.heap.size (.int .i64 0) (.int .i64 o) (.int .i64 q) (.int .i64 x) (.int .i64 y) (.slice none 0 0) := ⟨_, rfl⟩; change K _ (sets6 _ _ _ _ _ _ _ _); rw [← hy]; have KF := sets6_blk (v0 := .int .i64 0) (v1 := .int .i64 o) (v2 := .int .i64 q) (v3 := .int .i64 x) (v4 := .int .i64 y) (v5 := .slice none 0 0) KRV.out; rw [← hy] at KF; have HF := Lib.hid (show Rd y1 b (P + 60) ∧ w.grownBy y1 (some b) by subst hy; exact rd_fin (g := 0) HG.out.1 hb HG.out.2 (sets6_at (Nat.le_refl _) _ _ _ _ _ _)); have KK : (y1.cell? ⟨g9, 0, none⟩ = some (.int .i64 x) ∧ y1.cell? ⟨g9, 1, none⟩ = some (.int .i64 y)) ∧ w.grownBy y1 (some b) := ⟨⟨(World.cell?_of_block (by subst hy; exact sets6_other neR9 _ _ _ _ _ _)).trans hHeld.1.1, (World.cell?_of_block (by subst hy; exact sets6_other neR9 _ _ _ _ _ _)).trans hHeld.1.2⟩, HF.out.2⟩; clear hy fc0 ff0 fc1 ff1 fc2 ff2 fc3 ff3 fc4 ff4 fc5 ff5; refine hK.out _ _ (KK) (fun hHeld => ?_); clear hK K)
          try simp only [Act.put, List.setIfInBounds_toArray, List.set_cons_zero, List.set_cons_succ]
          refine wpAnyH_done (by kernel_rfl) ?_ _
          obtain ⟨z0, z1, z2, z3, z4, z5⟩ := cells6 KF
          clear KF KK hHeld gV hRV hGV KRV HG
          go_wp2_with fail
          refine bodyPost_ret (v := .agg #[.int .i64 0, .int .i64 o, .int .i64 q, .int .i64 x, .int .i64 y, .slice none 0 0]) (by simp [results, Try.results55, go_sem, z0, z1, z2, z3, z4, z5]) rfl ⟨none, 0, ⟨0, o, q, x, y, []⟩, rfl, (by simp), (by simp), .inl rfl, (fun ad e => by cases e), HF.out.1, HF.out.2⟩
    | false =>
      have HRn : Hid (Rd W b (P + 20)) := rd_up hR6 (by omega)
      have Gr := Lib.hid G6
      generalize fx = x at K9
      generalize fy = y at K9
      clear K8 hcc hR6 G6
      go_wp2_with fail
      refine (pick_any b _ 4 _ HRn.out (by omega)).mono ?_
      rintro e U ⟨t, rfl, ht, hRU, hGU⟩
      have GrU := g_trans Gr.out hGU
      have hbU := Nat.lt_of_lt_of_le hb GrU.size
      replace KR := blk_gr KR hGU neR
      replace K9 := blk_gr K9 hGU ne9
      clear hGU Gr HRn
      by_cases t0 : t = 0
      · have e0 : ((t : Int) == 0) = true := by simp [t0]
        clear t0 ht K9
        go_wp2_with fail
        refine (someZ b _ a cap base hs _ hRU (by omega) hbU (hs_grown HI.out ha hbb GrU) hl ha hbb).mono ?_
        rintro e V ⟨A, cz, zs, rfl, z4, zc, zI, zab, hRV, hGV⟩
        have HK := Lib.hid (blk_gr KR hGV neR)
        have lR := KR.lt
        have GV := g_trans GrU hGV
        have HZ : Hid (zs.length ≤ 4 ∧ zs.length ≤ cz ∧ IsInts V A zs ∧ ∀ ad, A = some ad → U.heap.size ≤ ad.block) := ⟨z4, zc, zI, zab⟩
        have HG := Lib.hid (And.intro (rd_up (P' := P + 60) hRV (by omega)) GV)
        clear zI zab z4 zc hRV hGV GV KR hRU GrU
        obtain ⟨y1, hy⟩ : ∃ Y_, Y_ = sets6 V w.heap.size (.int .i64 1) (.int .i64 o) (.int .i64 0) (.int .i64 0) (.int .i64 0) (.slice A zs.length cz) := ⟨_, rfl⟩
        have KF := sets6_blk (v0 := .int .i64 1) (v1 := .int .i64 o) (v2 := .int .i64 0) (v3 := .int .i64 0) (v4 := .int .i64 0) (v5 := .slice A zs.length cz) HK.out
        rw [← hy] at KF
        obtain ⟨z0, z1, z2, z3, z4, z5⟩ := cells6 KF
        have HF := Lib.hid (show Rd y1 b (P + 60) ∧ w.grownBy y1 (some b) by subst hy; exact rd_fin (g := 0) HG.out.1 hb HG.out.2 (sets6_at (Nat.le_refl _) _ _ _ _ _ _))
        have HZF := Lib.hid (show IsInts y1 A zs by subst hy; exact ints_off HZ.out.2.2.1 HZ.out.2.2.2 lR (fun g hn => sets6_other hn _ _ _ _ _ _))
        have HY := Lib.hid hy
        clear KF hy
        go_wp2_with (first | (show wpList _ _ _ ({ dst := _, op := Op.store _ _ _, type := _, pos := _, after := _, guard := _ } :: _) _ _; refine wpList_str6 rfl _ _ _ rfl w.heap.size (.int .i64 1) (.int .i64 o) (.int .i64 0) (.int .i64 0) (.int .i64 0) (.slice A zs.length cz) rfl rfl HK.out (by kernel_rfl) rfl ?_; rw [← HY.out]))
        refine bodyPost_ret (v := .agg #[.int .i64 1, .int .i64 o, .int .i64 0, .int .i64 0, .int .i64 0, .slice A zs.length cz]) (by simp [results, Try.results55, go_sem, z0, z1, z2, z3, z4, z5]) rfl ⟨A, cz, ⟨1, o, 0, 0, 0, zs⟩, rfl, HZ.out.1, HZ.out.2.1, HZF.out, (fun ad e => Nat.le_trans (Nat.le_of_lt lR) (HZ.out.2.2.2 ad e)), HF.out.1, HF.out.2⟩
      · have e0 : ((t : Int) == 0) = false := by simp; omega
        by_cases t1 : t = 1
        · have e1 : ((t : Int) == 1) = true := by simp [t1]
          clear t0 t1 ht K9
          go_wp2_with fail
          refine (anOwner b _ a cap base hs _ hRU (by omega) hbU (hs_grown HI.out ha hbb GrU) hl ha hbb).mono ?_
          rintro e V ⟨q, rfl, hRV, hGV⟩
          have HK := Lib.hid (blk_gr KR hGV neR)
          have HG := Lib.hid (And.intro (rd_up (P' := P + 60) hRV (by omega)) (g_trans GrU hGV))
          clear hRV hGV KR hRU GrU
          obtain ⟨y1, hy⟩ : ∃ Y_, Y_ = sets6 V w.heap.size (.int .i64 2) (.int .i64 o) (.int .i64 q) (.int .i64 0) (.int .i64 0) (.slice none 0 0) := ⟨_, rfl⟩
          have KF := sets6_blk (v0 := .int .i64 2) (v1 := .int .i64 o) (v2 := .int .i64 q) (v3 := .int .i64 0) (v4 := .int .i64 0) (v5 := .slice none 0 0) HK.out
          rw [← hy] at KF
          obtain ⟨z0, z1, z2, z3, z4, z5⟩ := cells6 KF
          have HF := Lib.hid (show Rd y1 b (P + 60) ∧ w.grownBy y1 (some b) by subst hy; exact rd_fin (g := 0) HG.out.1 hb HG.out.2 (sets6_at (Nat.le_refl _) _ _ _ _ _ _))
          have HY := Lib.hid hy
          clear KF hy
          go_wp2_with (first | (show wpList _ _ _ ({ dst := _, op := Op.store _ _ _, type := _, pos := _, after := _, guard := _ } :: _) _ _; refine wpList_str6 rfl _ _ _ rfl w.heap.size (.int .i64 2) (.int .i64 o) (.int .i64 q) (.int .i64 0) (.int .i64 0) (.slice none 0 0) rfl rfl HK.out (by kernel_rfl) rfl ?_; rw [← HY.out]))
          refine bodyPost_ret (v := .agg #[.int .i64 2, .int .i64 o, .int .i64 q, .int .i64 0, .int .i64 0, .slice none 0 0]) (by simp [results, Try.results55, go_sem, z0, z1, z2, z3, z4, z5]) rfl ⟨none, 0, ⟨2, o, q, 0, 0, []⟩, rfl, (by simp), (by simp), .inl rfl, (fun ad e => by cases e), HF.out.1, HF.out.2⟩
        · have e1 : ((t : Int) == 1) = false := by simp; omega
          clear t0 t1 ht
          obtain ⟨q0, q1, _, _, lt9⟩ := blk_two K9
          have RU : Hid (Rd U.drew b (P + 21)) := rd_up (rd_below hRU hbU (Below.refl _ _).drew) (by omega)
          have GU := Lib.hid GrU
          have IU : Hid (IsHs U.drew a hs) := hs_below (hs_grown HI.out ha hbb GrU) (Below.refl _ _).drew
          have KRU := Lib.hid (fun (V : World) (hV : U.grownBy V (some b)) => blk_gr KR hV neR)
          have MK := Lib.hid (fun (V : World) (hV : U.grownBy V (some b)) => (⟨⟨(g_cell hV (o := 0) lt9 ne9).trans q0, (g_cell hV (o := 1) lt9 ne9).trans q1⟩, g_trans GrU hV⟩ : (V.cell? ⟨g9, 0, none⟩ = some (.int .i64 x) ∧ V.cell? ⟨g9, 1, none⟩ = some (.int .i64 y)) ∧ w.grownBy V (some b)))
          clear hRU GrU KR K9 q0 q1
          go_wp2_with fail
          refine wp_region_held_drew (S := (fun w' => (w'.cell? ⟨g9, 0, none⟩ = some (.int .i64 x) ∧ w'.cell? ⟨g9, 1, none⟩ = some (.int .i64 y)) ∧ w.grownBy w' (some b))) (by kernel_rfl) ?_ (fun hHeld => ?_)
          · exact MK.out _ (g_of (Below.refl _ _).drew _)
          refine wpAnyH_take (i := 0) (oi := ?oot23) (v := ?vvt23) ?hit23 (by kernel_rfl) ?h3t23 ?h4t23 ?h5t23 ?h6t23 (by assumption) ?h8t23
          case hit23 => (simp only [List.getElem?_toArray, List.getElem?_cons_succ, List.getElem?_cons_zero]; rfl)
          case h3t23 => kernel_rfl
          case h4t23 => kernel_rfl
          case h6t23 => (refine Or.inl ⟨by rfl, ?_⟩; intro w hSw; (try dsimp only at hSw); (go_simp <;> with_reducible rfl))
          case h5t23 => exact fun _ _ _ h => h
          try simp only [Act.put, List.setIfInBounds_toArray, List.set_cons_zero, List.set_cons_succ]
          refine wpAnyH_take (i := 1) (oi := ?oot24) (v := ?vvt24) ?hit24 (by kernel_rfl) ?h3t24 ?h4t24 ?h5t24 ?h6t24 (by assumption) ?h8t24
          case hit24 => (simp only [List.getElem?_toArray, List.getElem?_cons_succ, List.getElem?_cons_zero]; rfl)
          case h3t24 => kernel_rfl
          case h4t24 => kernel_rfl
          case h6t24 => (refine Or.inl ⟨by rfl, ?_⟩; intro w hSw; (try dsimp only at hSw); (go_simp <;> with_reducible rfl))
          case h5t24 => exact fun _ _ _ h => h
          try simp only [Act.put, List.setIfInBounds_toArray, List.set_cons_zero, List.set_cons_succ]
          refine wpAnyH_take (i := 2) (oi := ?oot25) (v := ?vvt25) ?hit25 (by kernel_rfl) ?h3t25 ?h4t25 ?h5t25 ?h6t25 (by assumption) ?h8t25
          case hit25 => (simp only [List.getElem?_toArray, List.getElem?_cons_succ, List.getElem?_cons_zero]; rfl)
          case h3t25 => kernel_rfl
          case h4t25 => kernel_rfl
          case h6t25 => (refine Or.inl ⟨by rfl, ?_⟩; intro w hSw; (try dsimp only at hSw); (go_simp <;> with_reducible rfl))
          case h5t25 => exact fun _ _ _ h => h
          try simp only [Act.put, List.setIfInBounds_toArray, List.set_cons_zero, List.set_cons_succ]
          refine wpAnyH_take (i := 4) (oi := ?oot26) (v := ?vvt26) ?hit26 (by kernel_rfl) ?h3t26 ?h4t26 ?h5t26 ?h6t26 (by assumption) ?h8t26
          case hit26 => (simp only [List.getElem?_toArray, List.getElem?_cons_succ, List.getElem?_cons_zero]; rfl)
          case h3t26 => kernel_rfl
          case h4t26 => kernel_rfl
          case h6t26 => (refine Or.inl ⟨by rfl, ?_⟩; intro w hSw; (try dsimp only at hSw); (go_simp <;> with_reducible rfl))
          case h5t26 => exact fun _ _ _ h => h
          try simp only [Act.put, List.setIfInBounds_toArray, List.set_cons_zero, List.set_cons_succ]
          refine wpAnyH_ready (rs := [3]) (by kernel_rfl) (by simp) (AllReadyH.cons (o := ?oot27) ?hit27 (fun K hK => ?hkt27) AllReadyH.nil)
          rotate_left
          case hit27 => (simp only [List.getElem?_toArray, List.getElem?_cons_succ, List.getElem?_cons_zero]; rfl)
          (rw [if_pos (by rfl)]; go_simp; refine (anOwner b _ a cap base hs _ RU.out (by omega) hbU (IU.out) hl ha hbb).mono ?_; rintro e V ⟨q, rfl, hRV, hGV⟩; have gV := g_trans (g_of (Below.refl U.heap.size U).drew (some b)) hGV; have KRV := Lib.hid (KRU.out _ gV); have HG := Lib.hid (And.intro (rd_up (P' := P + 60) hRV (by omega)) (g_trans GU.out gV)); have KK := MK.out _ gV; go_wp2_with fail; refine hK.out _ _ (KK) (fun hHeld => ?_); clear hK K)
          try simp only [Act.put, List.setIfInBounds_toArray, List.set_cons_zero, List.set_cons_succ]
          refine wpAnyH_take (i := 5) (oi := ?oot28) (v := ?vvt28) ?hit28 (by kernel_rfl) ?h3t28 ?h4t28 ?h5t28 ?h6t28 (by assumption) ?h8t28
          case hit28 => (simp only [List.getElem?_toArray, List.getElem?_cons_succ, List.getElem?_cons_zero]; rfl)
          case h3t28 => kernel_rfl
          case h4t28 => kernel_rfl
          case h6t28 => (refine Or.inl ⟨by rfl, ?_⟩; intro w hSw; (try dsimp only at hSw); (go_simp <;> with_reducible rfl))
          case h5t28 => exact fun _ _ _ h => h
          try simp only [Act.put, List.setIfInBounds_toArray, List.set_cons_zero, List.set_cons_succ]
          refine wpAnyH_ready (rs := [6]) (by kernel_rfl) (by simp) (AllReadyH.cons (o := ?oot29) ?hit29 (fun K hK => ?hkt29) AllReadyH.nil)
          rotate_left
          case hit29 => (simp only [List.getElem?_toArray, List.getElem?_cons_succ, List.getElem?_cons_zero]; rfl)
          (rw [if_pos (by rfl)]; obtain ⟨fc0, fc1, fc2, fc3, fc4, fc5⟩ := cells6 KRV.out; have ff0 := KRV.out.frozen 0; have ff1 := KRV.out.frozen 1; have ff2 := KRV.out.frozen 2; have ff3 := KRV.out.frozen 3; have ff4 := KRV.out.frozen 4; have ff5 := KRV.out.frozen 5; go_simp; obtain ⟨y1, hy⟩ : ∃ Y_, Y_ = sets6 V w.heap.size (.int .i64 0) (.int .i64 o) (.int .i64 q) (.int .i64 x) (.int .i64 y) (.slice none 0 0) := ⟨_, rfl⟩; change K _ (sets6 _ _ _ _ _ _ _ _); rw [← hy]; have KF := sets6_blk (v0 := .int .i64 0) (v1 := .int .i64 o) (v2 := .int .i64 q) (v3 := .int .i64 x) (v4 := .int .i64 y) (v5 := .slice none 0 0) KRV.out; rw [← hy] at KF; have HF := Lib.hid (show Rd y1 b (P + 60) ∧ w.grownBy y1 (some b) by subst hy; exact rd_fin (g := 0) HG.out.1 hb HG.out.2 (sets6_at (Nat.le_refl _) _ _ _ _ _ _)); have KK : (y1.cell? ⟨g9, 0, none⟩ = some (.int .i64 x) ∧ y1.cell? ⟨g9, 1, none⟩ = some (.int .i64 y)) ∧ w.grownBy y1 (some b) := ⟨⟨(World.cell?_of_block (by subst hy; exact sets6_other neR9 _ _ _ _ _ _)).trans hHeld.1.1, (World.cell?_of_block (by subst hy; exact sets6_other neR9 _ _ _ _ _ _)).trans hHeld.1.2⟩, HF.out.2⟩; clear hy fc0 ff0 fc1 ff1 fc2 ff2 fc3 ff3 fc4 ff4 fc5 ff5; refine hK.out _ _ (KK) (fun hHeld => ?_); clear hK K)
          try simp only [Act.put, List.setIfInBounds_toArray, List.set_cons_zero, List.set_cons_succ]
          refine wpAnyH_done (by kernel_rfl) ?_ _
          obtain ⟨z0, z1, z2, z3, z4, z5⟩ := cells6 KF
          clear KF KK hHeld gV hRV hGV KRV HG
          go_wp2_with fail
          refine bodyPost_ret (v := .agg #[.int .i64 0, .int .i64 o, .int .i64 q, .int .i64 x, .int .i64 y, .slice none 0 0]) (by simp [results, Try.results55, go_sem, z0, z1, z2, z3, z4, z5]) rfl ⟨none, 0, ⟨0, o, q, x, y, []⟩, rfl, (by simp), (by simp), .inl rfl, (fun ad e => by cases e), HF.out.1, HF.out.2⟩
end Go.Proofs.Ytaehemmjemhgpaa
