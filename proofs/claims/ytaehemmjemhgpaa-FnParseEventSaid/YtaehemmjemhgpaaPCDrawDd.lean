/- The deeds that the laws draw. Condition: the reader has read at most 50000 numbers before. -/
import Derived.Test.YtaehemmjemhgpaaPCG0
import Derived.Test.YtaehemmjemhgpaaPCG4
import Derived.Test.YtaehemmjemhgpaaPCG6
import Derived.Deep.DeepCutAuto
import Derived.Deep.RegionHeld3
import Derived.Deep.QuietTactic
import Derived.BigQuiet
import Derived.RegionTactic
set_option maxRecDepth 100000
set_option maxHeartbeats 16000000
namespace Go.Proofs.Ytaehemmjemhgpaa
open Go.RowKit
set_option linter.unusedSimpArgs false
set_option linter.unusedVariables false

def SomeDd (w : World) (b : Nat) (P : Int) (e : Ending) (w' : World) : Prop := ∃ (A : Option Addr) (cz : Nat) (x : Dd), e = .returned (.agg #[.int .i64 x.k, .int .i64 x.o, .int .i64 x.t, .int .i64 x.n, .int .i64 x.d, .slice A x.zs.length cz]) ∧ x.zs.length ≤ 4 ∧ x.zs.length ≤ cz ∧ jqf w' A x.zs ∧ (∀ ad, A = some ad → w.heap.size ≤ ad.block) ∧ Rd w' b (P + 60) ∧ w.grownBy w' (some b)
theorem someDd (b : Nat) (P : Int) (a : Option Addr) (cap base : Nat) (hs : List Hd) (w : World) (h : Rd w b P) (hP : P ≤ 50000) (hb : b < w.heap.size) (hi : IsHs w a hs) (hl : hs.length ≤ 1048576) (ha : ∀ ad, a = some ad → base ≤ ad.block) (hbb : b < base) :
    Calls Try.prog 55 #[.pointer (some ⟨b, 0, none⟩), .slice a hs.length cap] w (SomeDd w b P) := by
  have HI := Lib.hid hi
  have neR : w.heap.size ≠ b := by omega
  obtain ⟨w0, hw0⟩ : ∃ y, y = w.alloc (.cells #[.int .i64 0, .int .i64 0, .int .i64 0, .int .i64 0, .int .i64 0, .slice none 0 0] 61) := ⟨_, rfl⟩
  have KR : Blk w0 w.heap.size 61 #[.int .i64 0, .int .i64 0, .int .i64 0, .int .i64 0, .int .i64 0, .slice none 0 0] := by subst hw0; exact Blk.new _ _ _
  have R0 : Rd w0 b P := by subst hw0; exact rd_alloc h hb _
  have G0 : w.grownBy w0 (some b) := by subst hw0; exact g_alloc (g_of (Below.refl _ _) _) _
  have hb0 := Nat.lt_of_lt_of_le hb G0.size; have HW0 := Lib.hid hw0; clear hi h hw0; go_enter Try.func55, Try.ntmps55
  go_upto_region 1 with fail
  rw [← HW0.out]; go_wp2_with fail; refine (anOwner b _ a cap base hs _ R0 (by omega) hb0 (jj9 HI.out ha hbb G0) hl ha hbb).mono ?_; rintro e w2 ⟨o, rfl, hR2, hG2⟩; have hb2 := Nat.lt_of_lt_of_le hb0 hG2.size; replace KR := jqj KR hG2 neR; replace hG2 := jqe G0 hG2; clear R0 G0 HW0; go_wp2_with fail; refine (sshare a cap hs o _ (jj9 HI.out ha hbb hG2) hl).mono ?_; unfold ShareV; rintro e w3 ⟨rfl, C3⟩; generalize (shR hs o).1 = sn; generalize (shR hs o).2 = sd; have hb3 := Nat.lt_of_lt_of_le hb2 C3.size; replace KR := KR.next C3; have lR3 := KR.lt
  obtain ⟨U3, hU3⟩ : ∃ y, y = w3.alloc (.cells #[.int .i64 sn, .int .i64 sd] 58) := ⟨_, rfl⟩
  have K8 : Blk U3 w3.heap.size 58 #[.int .i64 sn, .int .i64 sd] := by subst hU3; exact Blk.new _ _ _
  replace KR : Blk U3 w.heap.size 61 #[.int .i64 0, .int .i64 0, .int .i64 0, .int .i64 0, .int .i64 0, .slice none 0 0] := by subst hU3; exact KR.alloc _
  have R3 : Rd U3 b (P + 3) := by subst hU3; exact rd_alloc (jz3 hR2 hb2 C3) hb3 _
  have G3 : w.grownBy U3 (some b) := by subst hU3; exact g_alloc (jqe hG2 (jxb C3 _)) _
  have hbU3 : b < U3.heap.size := Nat.lt_of_lt_of_le hb G3.size; have HU3 := Lib.hid hU3; clear hR2 hG2 C3 hU3; generalize hg8 : w3.heap.size = g8 at K8 lR3 ⊢
  have ne8 : g8 ≠ b := by omega
  clear hb3
  go_upto_region 3 with fail
  subst hg8; rw [← HU3.out]; generalize w3.heap.size = g8 at K8 ne8 lR3 ⊢; go_wp2_with fail; refine (someFrac_any b _ _ R3 (by omega) hbU3).mono ?_; rintro e w4 ⟨fx, fy, rfl, _, _, _, _, hR4, hG4⟩; have hb4 := Nat.lt_of_lt_of_le hbU3 hG4.size; have l84 := Nat.lt_of_lt_of_le K8.lt hG4.size; replace K8 := jqj K8 hG4 ne8; replace KR := jqj KR hG4 neR; have gb9 : b < w4.heap.size := hb4
  obtain ⟨U4, hU4⟩ : ∃ y, y = w4.alloc (.cells #[.int .i64 fx, .int .i64 fy] 58) := ⟨_, rfl⟩
  have K9 : Blk U4 w4.heap.size 58 #[.int .i64 fx, .int .i64 fy] := by subst hU4; exact Blk.new _ _ _
  replace K8 : Blk U4 g8 58 #[.int .i64 sn, .int .i64 sd] := by subst hU4; exact K8.alloc _
  replace KR : Blk U4 w.heap.size 61 #[.int .i64 0, .int .i64 0, .int .i64 0, .int .i64 0, .int .i64 0, .slice none 0 0] := by subst hU4; exact KR.alloc _
  have HU4 := Lib.hid hU4
  have R4 : Rd U4 b (P + 6) := by subst hU4; exact rd_alloc (jxa hR4 (by omega)) hb4 _
  have G4 : w.grownBy U4 (some b) := by subst hU4; exact g_alloc (jqe G3 hG4) _
  have ne9 : w4.heap.size ≠ b := by omega
  have ne98 : w4.heap.size ≠ g8 := by omega
  have neR9 : w4.heap.size ≠ w.heap.size := by omega
  have ge9 : w.heap.size ≤ w4.heap.size := (jqe G3 hG4).size; clear R3 G3 hR4 hG4 hU4 hbU3
  go_upto_region 4 with fail
  rw [← HU4.out]; generalize w4.heap.size = g9 at K9 ne9 ge9 ne98 gb9 neR9 l84 ⊢; clear HU4 hb4 HU3; have CV := svalid sn sd U4; have hbU4 := Nat.lt_of_lt_of_le hb G4.size
  go_cut [27] (fun s27 wx => ∃ c : Bool, s27 = .bool c ∧ (c = true → Wsh.vfB sn sd = true ∧ 0 < sn) ∧ Blk wx g8 58 #[.int .i64 sn, .int .i64 sd] ∧ Blk wx g9 58 #[.int .i64 fx, .int .i64 fy] ∧ Blk wx w.heap.size 61 #[.int .i64 0, .int .i64 0, .int .i64 0, .int .i64 0, .int .i64 0, .slice none 0 0] ∧ Rd wx b (P + 8) ∧ w.grownBy wx (some b))
  case first =>
    cases hv : Wsh.vfB sn sd with
    | false =>
      rw [hv] at CV; obtain ⟨s0, s1, _, _, s4⟩ := jx1 K8; have HF := Lib.hid (fun (W : World) (C : Below U4.heap.size U4 W) => (⟨K8.next C, K9.next C, KR.next C, jxa (P' := P + 8) (jz3 R4 hbU4 C) (by omega), jqe G4 (jxb C _)⟩ : Blk W g8 58 #[.int .i64 sn, .int .i64 sd] ∧ Blk W g9 58 #[.int .i64 fx, .int .i64 fy] ∧ Blk W w.heap.size 61 #[.int .i64 0, .int .i64 0, .int .i64 0, .int .i64 0, .int .i64 0, .slice none 0 0] ∧ Rd W b (P + 8) ∧ w.grownBy W (some b))); clear K8 K9 KR R4 G4 s4; go_wp2_with fail; refine CV.mono ?_; rintro e W ⟨rfl, C5⟩; go_wp2_with fail
      go_meet
      exact ⟨false, rfl, (fun c => by cases c), HF.out W C5⟩
    | true =>
      rw [hv] at CV; obtain ⟨s0, s1, _, _, s4⟩ := jx1 K8; have MC := Lib.hid (fun (W : World) (C : Below U4.heap.size U4 W) => (C.cell (p := ⟨g8, 0, none⟩) s4).trans s0)
      by_cases n0 : 0 < sn
      · have HF := Lib.hid (fun (W : World) (C : Below U4.heap.size U4 W) => (⟨K8.next C, K9.next C, KR.next C, jz3 R4 hbU4 C, jqe G4 (jxb C _), Nat.lt_of_lt_of_le hbU4 C.size⟩ : Blk W g8 58 #[.int .i64 sn, .int .i64 sd] ∧ Blk W g9 58 #[.int .i64 fx, .int .i64 fy] ∧ Blk W w.heap.size 61 #[.int .i64 0, .int .i64 0, .int .i64 0, .int .i64 0, .int .i64 0, .slice none 0 0] ∧ Rd W b (P + 6) ∧ w.grownBy W (some b) ∧ b < W.heap.size))
        clear K8 K9 KR R4 G4 s4; go_wp2_with fail; refine CV.mono ?_; rintro e W ⟨rfl, C5⟩; have m0 := MC.out W C5; clear s0 s1; have e2 : decide (0 < sn) = true := decide_eq_true n0; go_wp2_with fail; refine (jx2 b _ 6 _ (HF.out W C5).2.2.2.1 (by omega)).mono ?_; rintro e V ⟨p, rfl, hp, hRV, hGV⟩; obtain ⟨a1, a2, a3, _, a5, a6⟩ := HF.out W C5
        have HE : Hid (Blk V g8 58 #[.int .i64 sn, .int .i64 sd] ∧ Blk V g9 58 #[.int .i64 fx, .int .i64 fy] ∧ Blk V w.heap.size 61 #[.int .i64 0, .int .i64 0, .int .i64 0, .int .i64 0, .int .i64 0, .slice none 0 0] ∧ Rd V b (P + 8) ∧ w.grownBy V (some b)) := ⟨jqj a1 hGV ne8, jqj a2 hGV ne9, jqj a3 hGV neR, jxa hRV (by omega), jqe a5 hGV⟩
        clear a1 a2 a3 a5 a6 hRV hGV m0
        by_cases p0 : p = 0
        · have e1 : decide ((0 : Int) < (p : Int)) = false := decide_eq_false (by omega)
          go_wp2_with fail
          go_meet
          exact ⟨false, rfl, (fun c => by cases c), HE.out⟩
        · have e1 : decide ((0 : Int) < (p : Int)) = true := decide_eq_true (by omega)
          have e3 : decide (0 < p) = true := decide_eq_true (by omega); go_wp2_with fail
          go_meet
          exact ⟨true, rfl, (fun _ => ⟨hv, n0⟩), HE.out⟩
      · have HF := Lib.hid (fun (W : World) (C : Below U4.heap.size U4 W) => (⟨K8.next C, K9.next C, KR.next C, jxa (P' := P + 8) (jz3 R4 hbU4 C) (by omega), jqe G4 (jxb C _)⟩ : Blk W g8 58 #[.int .i64 sn, .int .i64 sd] ∧ Blk W g9 58 #[.int .i64 fx, .int .i64 fy] ∧ Blk W w.heap.size 61 #[.int .i64 0, .int .i64 0, .int .i64 0, .int .i64 0, .int .i64 0, .slice none 0 0] ∧ Rd W b (P + 8) ∧ w.grownBy W (some b)))
        have n1' : decide (0 < sn) = false := decide_eq_false (by omega); clear K8 K9 KR R4 G4 s4; go_wp2_with fail; refine CV.mono ?_; rintro e W ⟨rfl, C5⟩; have m0 := MC.out W C5; clear s0 s1; go_wp2_with fail
        go_meet
        exact ⟨false, rfl, (fun c => by cases c), HF.out W C5⟩
  case rest =>
    clear K8 K9 KR R4 G4 CV hbU4; obtain ⟨c, rfl, hcc, K8, K9, KR, hR6, G6⟩ := hcut
    obtain ⟨W, hW⟩ : ∃ W, W = wc := ⟨_, rfl⟩
    subst hW; have hbW := Nat.lt_of_lt_of_le hb G6.size
    cases c with
    | true =>
      obtain ⟨hvf, n0⟩ := hcc rfl; obtain ⟨d1, d2, n1, n2, _⟩ := (Wsh.vfB_iff sn sd).1 hvf; have KB := Lib.hid (fun (V : World) (hV : W.grownBy V (some b)) => jqj K9 hV ne9); have KRB := Lib.hid (fun (V : World) (hV : W.grownBy V (some b)) => jqj KR hV neR); obtain ⟨s0, s1, _, _, s4⟩ := jx1 K8; have MK9 := Lib.hid (fun (V : World) (hV : W.grownBy V (some b)) => (⟨⟨(g_cell hV (o := 0) s4 ne8).trans s0, (g_cell hV (o := 1) s4 ne8).trans s1⟩, jqe G6 hV⟩ : (V.cell? ⟨g8, 0, none⟩ = some (.int .i64 sn) ∧ V.cell? ⟨g8, 1, none⟩ = some (.int .i64 sd)) ∧ w.grownBy V (some b))); clear K9 KR s0 s1 K8 hcc; go_wp2_with fail; refine wp_region_held_drew (S := (fun w' => (w'.cell? ⟨g8, 0, none⟩ = some (.int .i64 sn) ∧ w'.cell? ⟨g8, 1, none⟩ = some (.int .i64 sd)) ∧ w.grownBy w' (some b))) (by kernel_rfl) ?_ (fun hHeld => ?_)
      · exact MK9.out _ (g_of (Below.refl _ _).drew _)
      refine tk (i := 0) (v := ?v10) rfl ?c10 ?d_10
      case c10 => (refine .inl ⟨by rfl, ?_⟩; intro w h; (try dsimp only at h); go_simp <;> with_reducible rfl)
      try simp only [pt]
      refine tk (i := 1) (v := ?v11) rfl ?c11 ?d_11
      case c11 => (refine .inl ⟨by rfl, ?_⟩; intro w h; (try dsimp only at h); go_simp <;> with_reducible rfl)
      try simp only [pt]
      refine tk (i := 2) (v := ?v12) rfl ?c12 ?d_12
      case c12 => (refine .inl ⟨by rfl, ?_⟩; intro w h; (try dsimp only at h); go_simp <;> with_reducible rfl)
      try simp only [pt]
      refine tk (i := 3) (v := ?v13) rfl ?c13 ?d_13
      case c13 => (refine .inl ⟨by rfl, ?_⟩; intro w h; (try dsimp only at h); go_simp <;> with_reducible rfl)
      try simp only [pt]
      refine tk (i := 4) (v := ?v14) rfl ?c14 ?d_14
      case c14 => (refine .inl ⟨by rfl, ?_⟩; intro w h; (try dsimp only at h); go_simp <;> with_reducible rfl)
      try simp only [pt]
      refine wpAnyH_ready (rs := [5]) (by kernel_rfl) (by simp) (AllReadyH.cons (o := ?oot14) ?hit14 (fun K hK => ?hkt14) AllReadyH.nil)
      rotate_left
      case hit14 => (simp only [List.getElem?_toArray, List.getElem?_cons_succ, List.getElem?_cons_zero]; rfl)
      (rw [if_pos (by rfl)]; go_simp; have KK := MK9.out _ (g_of (((Below.refl _ W).alloc (Nat.le_refl _) (.cells ([2, 1, 3].map (Value.int .i64)).toArray 3)).drew) (some b)); refine hK.out _ _ (KK) (fun hHeld => ?_); clear hK K)
      try simp only [pt]
      refine wpAnyH_ready (rs := [6]) (by kernel_rfl) (by simp) (AllReadyH.cons (o := ?oot15) ?hit15 (fun K hK => ?hkt15) AllReadyH.nil)
      rotate_left
      case hit15 => (simp only [List.getElem?_toArray, List.getElem?_cons_succ, List.getElem?_cons_zero]; rfl)
      (rw [if_pos (by rfl)]; go_simp; refine (one_any b W.heap.size 3 3 _ 1 3 _ (jz3 hR6 hbW (((Below.refl _ W).alloc (Nat.le_refl _) (.cells ([2, 1, 3].map (Value.int .i64)).toArray 3)).drew)) (by omega) (by omega) (by simp) (by omega) (by omega) (fun i hi => lit_cells W [2, 1, 3] 3 1 3 (by simp) i (by simpa using hi))).mono ?_; rintro e w7 ⟨z, rfl, z0, z1, hR7, hG7⟩; have g7' : W.grownBy w7 (some b) := jqe (g_of (((Below.refl _ W).alloc (Nat.le_refl _) (.cells ([2, 1, 3].map (Value.int .i64)).toArray 3)).drew) (some b)) hG7; have hzz3 : z = 1 ∨ z = 2 ∨ z = 3 := (by omega); have bz : 1 ≤ sd * z ∧ sd * z ≤ 30000 := (by rcases hzz3 with h | h | h <;> rw [h] <;> omega); have ws : IntKind.i64.wrap (sd * z) = sd * z := (by rw [IntKind.wrap_i64]; omega); have KK := MK9.out _ g7'; go_wp2_with fail; refine hK.out _ _ (KK) (fun hHeld => ?_); clear hK K)
      try simp only [pt]
      refine tk (i := 7) (v := ?v15) rfl ?c15 ?d_15
      case c15 => (refine .inl ⟨by rfl, ?_⟩; intro w h; (try dsimp only at h); go_simp <;> with_reducible rfl)
      try simp only [pt]
      refine wpAnyH_ready (rs := [8]) (by kernel_rfl) (by simp) (AllReadyH.cons (o := ?oot17) ?hit17 (fun K hK => ?hkt17) AllReadyH.nil)
      rotate_left
      case hit17 => (simp only [List.getElem?_toArray, List.getElem?_cons_succ, List.getElem?_cons_zero]; rfl)
      (rw [if_pos (by rfl)]; go_simp; refine (sred sn (sd * z) _ (by omega) (by omega) (by omega) (by omega)).mono ?_; rintro e w8 ⟨he, hb8⟩; obtain ⟨x, y, bb, hfr⟩ : ∃ x y bb, frV (Wsh.redB sn (sd * z)) (Wsh.rn sn (sd * z)) (Wsh.rd sn (sd * z)) = .tuple #[.agg #[.int .i64 x, .int .i64 y], .bool bb] := (by cases Wsh.redB sn (sd * z) <;> exact ⟨_, _, _, rfl⟩); rw [hfr] at he; subst he; have g8' := jqe g7' (jxb hb8 (some b)); have R8 := jz3 hR7 (Nat.lt_of_lt_of_le hbW g7'.size) hb8; have K8' := KB.out _ g8'; have KR8 := KRB.out _ g8'; have KK := MK9.out _ g8'; clear ws; go_wp2_with fail; refine hK.out _ _ (KK) (fun hHeld => ?_); clear hK K)
      try simp only [pt]
      refine tk (i := 9) (v := ?v16) rfl ?c16 ?d_16
      case c16 => (refine .inl ⟨by rfl, ?_⟩; intro w h; (try dsimp only at h); go_simp <;> with_reducible rfl)
      try simp only [pt]
      refine tk (i := 10) (v := ?v17) rfl ?c17 ?d_17
      case c17 => (refine .inl ⟨by rfl, ?_⟩; intro w h; (try dsimp only at h); go_simp <;> with_reducible rfl)
      try simp only [pt]
      refine tk (i := 11) (v := ?v18) rfl ?c18 ?d_18
      case c18 => (refine .inl ⟨by rfl, ?_⟩; intro w h; (try dsimp only at h); go_simp <;> with_reducible rfl)
      try simp only [pt]
      refine wpAnyH_ready (rs := [12]) (by kernel_rfl) (by simp) (AllReadyH.cons (o := ?oot21) ?hit21 (fun K hK => ?hkt21) AllReadyH.nil)
      rotate_left
      case hit21 => (simp only [List.getElem?_toArray, List.getElem?_cons_succ, List.getElem?_cons_zero]; rfl)
      (rw [if_pos (by rfl)]; obtain ⟨qa, qb, fa, fb, lta⟩ := jx1 K8'; go_simp; have KK : (((w8.setCell ⟨g9, 0, none⟩ (.int .i64 x)).setCell ⟨g9, 1, none⟩ (.int .i64 y)).cell? ⟨g8, 0, none⟩ = some (.int .i64 sn) ∧ ((w8.setCell ⟨g9, 0, none⟩ (.int .i64 x)).setCell ⟨g9, 1, none⟩ (.int .i64 y)).cell? ⟨g8, 1, none⟩ = some (.int .i64 sd)) ∧ w.grownBy ((w8.setCell ⟨g9, 0, none⟩ (.int .i64 x)).setCell ⟨g9, 1, none⟩ (.int .i64 y)) (some b) := ⟨⟨so (fun e => by injection e with e; omega) (so (fun e => by injection e with e; omega) hHeld.1.1), so (fun e => by injection e with e; omega) (so (fun e => by injection e with e; omega) hHeld.1.2)⟩, g_set (g_set hHeld.2 (.inr ge9) _) (.inr ge9) _⟩; refine hK.out _ _ (KK) (fun hHeld => ?_); clear hK K)
      try simp only [pt]
      refine wpAnyH_done (by kernel_rfl) ?_ _; have K3 := Blk.two K8' (.int .i64 x) (.int .i64 y); have KR3 := (KR8.far (p := ⟨g9, 0, none⟩) (by show w.heap.size ≠ g9; omega) (.int .i64 x)).far (p := ⟨g9, 1, none⟩) (by show w.heap.size ≠ g9; omega) (.int .i64 y); have HRn0 : Rd ((w8.setCell ⟨g9, 0, none⟩ (.int .i64 x)).setCell ⟨g9, 1, none⟩ (.int .i64 y)) b (P + 20) := jz3 (jxa R8 (by omega)) gb9 (((Below.refl g9 w8).setCell (p := ⟨g9, 0, none⟩) (Nat.le_refl _) _).setCell (p := ⟨g9, 1, none⟩) (Nat.le_refl _) _); have Gr0 := hHeld.2; clear hHeld KK K8' R8 g8' hb8 hR7 hG7 g7' MK9 KB KRB KR8 qa qb fa fb lta; generalize ((w8.setCell ⟨g9, 0, none⟩ (.int .i64 x)).setCell ⟨g9, 1, none⟩ (.int .i64 y)) = W2 at K3 KR3 HRn0 Gr0 ⊢; have HRn := Lib.hid HRn0; have Gr := Lib.hid Gr0; have K9 := K3; have KR := KR3; clear K3 HRn0 Gr0 KR3; go_wp2_with fail; refine (jx2 b _ 4 _ HRn.out (by omega)).mono ?_; rintro e U ⟨t, rfl, ht, hRU, hGU⟩; have GrU := jqe Gr.out hGU; have hbU := Nat.lt_of_lt_of_le hb GrU.size; replace KR := jqj KR hGU neR; replace K9 := jqj K9 hGU ne9; clear hGU Gr HRn
      by_cases t0 : t = 0
      · have e0 : ((t : Int) == 0) = true := by simp [t0]
        clear t0 ht K9; go_wp2_with fail; refine (someZ b _ a cap base hs _ hRU (by omega) hbU (jj9 HI.out ha hbb GrU) hl ha hbb).mono ?_; rintro e V ⟨A, cz, zs, rfl, z4, zc, zI, zab, hRV, hGV⟩; have HK := Lib.hid (jqj KR hGV neR); have lR := KR.lt; have GV := jqe GrU hGV
        have HZ : Hid (zs.length ≤ 4 ∧ zs.length ≤ cz ∧ jqf V A zs ∧ ∀ ad, A = some ad → U.heap.size ≤ ad.block) := ⟨z4, zc, zI, zab⟩
        have HG := Lib.hid (And.intro (jxa (P' := P + 60) hRV (by omega)) GV); clear zI zab z4 zc hRV hGV GV KR hRU GrU
        obtain ⟨y1, hy⟩ : ∃ Y_, Y_ = sets6 V w.heap.size (.int .i64 1) (.int .i64 o) (.int .i64 0) (.int .i64 0) (.int .i64 0) (.slice A zs.length cz) := ⟨_, rfl⟩
        have KF := jjf (v0 := .int .i64 1) (v1 := .int .i64 o) (v2 := .int .i64 0) (v3 := .int .i64 0) (v4 := .int .i64 0) (v5 := .slice A zs.length cz) HK.out; rw [← hy] at KF; obtain ⟨z0, z1, z2, z3, z4, z5⟩ := cells6 KF; have HF := Lib.hid (show Rd y1 b (P + 60) ∧ w.grownBy y1 (some b) by subst hy; exact jj4 (g := 0) HG.out.1 hb HG.out.2 (sets6_at (Nat.le_refl _) _ _ _ _ _ _)); have HZF := Lib.hid (show jqf y1 A zs by subst hy; exact jj2 HZ.out.2.2.1 HZ.out.2.2.2 lR (fun g hn => sets6_other hn _ _ _ _ _ _)); have HY := Lib.hid hy; clear KF hy
        go_wp2_with (first | (show wpList _ _ _ ({ dst := _, op := Op.store _ _ _, type := _, pos := _, after := _, guard := _ } :: _) _ _; refine jj7 rfl _ _ _ rfl w.heap.size (.int .i64 1) (.int .i64 o) (.int .i64 0) (.int .i64 0) (.int .i64 0) (.slice A zs.length cz) rfl rfl HK.out (by kernel_rfl) rfl ?_; rw [← HY.out]))
        refine bodyPost_ret (v := .agg #[.int .i64 1, .int .i64 o, .int .i64 0, .int .i64 0, .int .i64 0, .slice A zs.length cz]) (by simp [results, Try.results55, go_sem, z0, z1, z2, z3, z4, z5]) rfl ⟨A, cz, ⟨1, o, 0, 0, 0, zs⟩, rfl, HZ.out.1, HZ.out.2.1, HZF.out, (fun ad e => Nat.le_trans (Nat.le_of_lt lR) (HZ.out.2.2.2 ad e)), HF.out.1, HF.out.2⟩
      · have e0 : ((t : Int) == 0) = false := by simp; omega
        by_cases t1 : t = 1
        · have e1 : ((t : Int) == 1) = true := by simp [t1]
          clear t0 t1 ht K9; go_wp2_with fail; refine (anOwner b _ a cap base hs _ hRU (by omega) hbU (jj9 HI.out ha hbb GrU) hl ha hbb).mono ?_; rintro e V ⟨q, rfl, hRV, hGV⟩; have HK := Lib.hid (jqj KR hGV neR); have HG := Lib.hid (And.intro (jxa (P' := P + 60) hRV (by omega)) (jqe GrU hGV)); clear hRV hGV KR hRU GrU
          obtain ⟨y1, hy⟩ : ∃ Y_, Y_ = sets6 V w.heap.size (.int .i64 2) (.int .i64 o) (.int .i64 q) (.int .i64 0) (.int .i64 0) (.slice none 0 0) := ⟨_, rfl⟩
          have KF := jjf (v0 := .int .i64 2) (v1 := .int .i64 o) (v2 := .int .i64 q) (v3 := .int .i64 0) (v4 := .int .i64 0) (v5 := .slice none 0 0) HK.out; rw [← hy] at KF; obtain ⟨z0, z1, z2, z3, z4, z5⟩ := cells6 KF; have HF := Lib.hid (show Rd y1 b (P + 60) ∧ w.grownBy y1 (some b) by subst hy; exact jj4 (g := 0) HG.out.1 hb HG.out.2 (sets6_at (Nat.le_refl _) _ _ _ _ _ _)); have HY := Lib.hid hy; clear KF hy
          go_wp2_with (first | (show wpList _ _ _ ({ dst := _, op := Op.store _ _ _, type := _, pos := _, after := _, guard := _ } :: _) _ _; refine jj7 rfl _ _ _ rfl w.heap.size (.int .i64 2) (.int .i64 o) (.int .i64 q) (.int .i64 0) (.int .i64 0) (.slice none 0 0) rfl rfl HK.out (by kernel_rfl) rfl ?_; rw [← HY.out]))
          refine bodyPost_ret (v := .agg #[.int .i64 2, .int .i64 o, .int .i64 q, .int .i64 0, .int .i64 0, .slice none 0 0]) (by simp [results, Try.results55, go_sem, z0, z1, z2, z3, z4, z5]) rfl ⟨none, 0, ⟨2, o, q, 0, 0, []⟩, rfl, (by simp), (by simp), .inl rfl, (fun ad e => by cases e), HF.out.1, HF.out.2⟩
        · have e1 : ((t : Int) == 1) = false := by simp; omega
          clear t0 t1 ht; obtain ⟨q0, q1, _, _, lt9⟩ := jx1 K9; have RU : Hid (Rd U.drew b (P + 21)) := jxa (jz3 hRU hbU (Below.refl _ _).drew) (by omega); have GU := Lib.hid GrU; have IU : Hid (IsHs U.drew a hs) := jx3 (jj9 HI.out ha hbb GrU) (Below.refl _ _).drew; have KRU := Lib.hid (fun (V : World) (hV : U.grownBy V (some b)) => jqj KR hV neR); have MK := Lib.hid (fun (V : World) (hV : U.grownBy V (some b)) => (⟨⟨(g_cell hV (o := 0) lt9 ne9).trans q0, (g_cell hV (o := 1) lt9 ne9).trans q1⟩, jqe GrU hV⟩ : (V.cell? ⟨g9, 0, none⟩ = some (.int .i64 x) ∧ V.cell? ⟨g9, 1, none⟩ = some (.int .i64 y)) ∧ w.grownBy V (some b))); clear hRU GrU KR K9 q0 q1; go_wp2_with fail; refine wp_region_held_drew (S := (fun w' => (w'.cell? ⟨g9, 0, none⟩ = some (.int .i64 x) ∧ w'.cell? ⟨g9, 1, none⟩ = some (.int .i64 y)) ∧ w.grownBy w' (some b))) (by kernel_rfl) ?_ (fun hHeld => ?_)
          · exact MK.out _ (g_of (Below.refl _ _).drew _)
          refine tk (i := 0) (v := ?v19) rfl ?c19 ?d_19
          case c19 => (refine .inl ⟨by rfl, ?_⟩; intro w h; (try dsimp only at h); go_simp <;> with_reducible rfl)
          try simp only [pt]
          refine tk (i := 1) (v := ?v1a) rfl ?c1a ?d_1a
          case c1a => (refine .inl ⟨by rfl, ?_⟩; intro w h; (try dsimp only at h); go_simp <;> with_reducible rfl)
          try simp only [pt]
          refine tk (i := 2) (v := ?v1b) rfl ?c1b ?d_1b
          case c1b => (refine .inl ⟨by rfl, ?_⟩; intro w h; (try dsimp only at h); go_simp <;> with_reducible rfl)
          try simp only [pt]
          refine tk (i := 4) (v := ?v1c) rfl ?c1c ?d_1c
          case c1c => (refine .inl ⟨by rfl, ?_⟩; intro w h; (try dsimp only at h); go_simp <;> with_reducible rfl)
          try simp only [pt]
          refine wpAnyH_ready (rs := [3]) (by kernel_rfl) (by simp) (AllReadyH.cons (o := ?oot5) ?hit5 (fun K hK => ?hkt5) AllReadyH.nil)
          rotate_left
          case hit5 => (simp only [List.getElem?_toArray, List.getElem?_cons_succ, List.getElem?_cons_zero]; rfl)
          (rw [if_pos (by rfl)]; go_simp; refine (anOwner b _ a cap base hs _ RU.out (by omega) hbU (IU.out) hl ha hbb).mono ?_; rintro e V ⟨q, rfl, hRV, hGV⟩; have gV := jqe (g_of (Below.refl U.heap.size U).drew (some b)) hGV; have KRV := Lib.hid (KRU.out _ gV); have HG := Lib.hid (And.intro (jxa (P' := P + 60) hRV (by omega)) (jqe GU.out gV)); have KK := MK.out _ gV; go_wp2_with fail; refine hK.out _ _ (KK) (fun hHeld => ?_); clear hK K)
          try simp only [pt]
          refine tk (i := 5) (v := ?v1d) rfl ?c1d ?d_1d
          case c1d => (refine .inl ⟨by rfl, ?_⟩; intro w h; (try dsimp only at h); go_simp <;> with_reducible rfl)
          try simp only [pt]
          refine wpAnyH_ready (rs := [6]) (by kernel_rfl) (by simp) (AllReadyH.cons (o := ?oot7) ?hit7 (fun K hK => ?hkt7) AllReadyH.nil)
          rotate_left
          case hit7 => (simp only [List.getElem?_toArray, List.getElem?_cons_succ, List.getElem?_cons_zero]; rfl)
          (rw [if_pos (by rfl)]; obtain ⟨fc0, fc1, fc2, fc3, fc4, fc5⟩ := cells6 KRV.out; obtain ⟨ff0, ff1, ff2, ff3, ff4, ff5⟩ := fzs6 KRV.out; go_simp; obtain ⟨y1, hy⟩ : ∃ Y_, Y_ = sets6 V w.heap.size (.int .i64 0) (.int .i64 o) (.int .i64 q) (.int .i64 x) (.int .i64 y) (.slice none 0 0) := ⟨_, rfl⟩; change K _ (sets6 _ _ _ _ _ _ _ _); rw [← hy]; have KF := jjf (v0 := .int .i64 0) (v1 := .int .i64 o) (v2 := .int .i64 q) (v3 := .int .i64 x) (v4 := .int .i64 y) (v5 := .slice none 0 0) KRV.out; rw [← hy] at KF; have HF := Lib.hid (show Rd y1 b (P + 60) ∧ w.grownBy y1 (some b) by subst hy; exact jj4 (g := 0) HG.out.1 hb HG.out.2 (sets6_at (Nat.le_refl _) _ _ _ _ _ _)); have KK : (y1.cell? ⟨g9, 0, none⟩ = some (.int .i64 x) ∧ y1.cell? ⟨g9, 1, none⟩ = some (.int .i64 y)) ∧ w.grownBy y1 (some b) := ⟨⟨(World.cell?_of_block (by subst hy; exact sets6_other neR9 _ _ _ _ _ _)).trans hHeld.1.1, (World.cell?_of_block (by subst hy; exact sets6_other neR9 _ _ _ _ _ _)).trans hHeld.1.2⟩, HF.out.2⟩; clear hy fc0 ff0 fc1 ff1 fc2 ff2 fc3 ff3 fc4 ff4 fc5 ff5; refine hK.out _ _ (KK) (fun hHeld => ?_); clear hK K)
          try simp only [pt]
          refine wpAnyH_done (by kernel_rfl) ?_ _; obtain ⟨z0, z1, z2, z3, z4, z5⟩ := cells6 KF; clear KF KK hHeld gV hRV hGV KRV HG; go_wp2_with fail; refine bodyPost_ret (v := .agg #[.int .i64 0, .int .i64 o, .int .i64 q, .int .i64 x, .int .i64 y, .slice none 0 0]) (by simp [results, Try.results55, go_sem, z0, z1, z2, z3, z4, z5]) rfl ⟨none, 0, ⟨0, o, q, x, y, []⟩, rfl, (by simp), (by simp), .inl rfl, (fun ad e => by cases e), HF.out.1, HF.out.2⟩
    | false =>
      have HRn : Hid (Rd W b (P + 20)) := jxa hR6 (by omega); have Gr := Lib.hid G6; generalize fx = x at K9; generalize fy = y at K9; clear K8 hcc hR6 G6; go_wp2_with fail; refine (jx2 b _ 4 _ HRn.out (by omega)).mono ?_; rintro e U ⟨t, rfl, ht, hRU, hGU⟩; have GrU := jqe Gr.out hGU; have hbU := Nat.lt_of_lt_of_le hb GrU.size; replace KR := jqj KR hGU neR; replace K9 := jqj K9 hGU ne9; clear hGU Gr HRn
      by_cases t0 : t = 0
      · have e0 : ((t : Int) == 0) = true := by simp [t0]
        clear t0 ht K9; go_wp2_with fail; refine (someZ b _ a cap base hs _ hRU (by omega) hbU (jj9 HI.out ha hbb GrU) hl ha hbb).mono ?_; rintro e V ⟨A, cz, zs, rfl, z4, zc, zI, zab, hRV, hGV⟩; have HK := Lib.hid (jqj KR hGV neR); have lR := KR.lt; have GV := jqe GrU hGV
        have HZ : Hid (zs.length ≤ 4 ∧ zs.length ≤ cz ∧ jqf V A zs ∧ ∀ ad, A = some ad → U.heap.size ≤ ad.block) := ⟨z4, zc, zI, zab⟩
        have HG := Lib.hid (And.intro (jxa (P' := P + 60) hRV (by omega)) GV); clear zI zab z4 zc hRV hGV GV KR hRU GrU
        obtain ⟨y1, hy⟩ : ∃ Y_, Y_ = sets6 V w.heap.size (.int .i64 1) (.int .i64 o) (.int .i64 0) (.int .i64 0) (.int .i64 0) (.slice A zs.length cz) := ⟨_, rfl⟩
        have KF := jjf (v0 := .int .i64 1) (v1 := .int .i64 o) (v2 := .int .i64 0) (v3 := .int .i64 0) (v4 := .int .i64 0) (v5 := .slice A zs.length cz) HK.out; rw [← hy] at KF; obtain ⟨z0, z1, z2, z3, z4, z5⟩ := cells6 KF; have HF := Lib.hid (show Rd y1 b (P + 60) ∧ w.grownBy y1 (some b) by subst hy; exact jj4 (g := 0) HG.out.1 hb HG.out.2 (sets6_at (Nat.le_refl _) _ _ _ _ _ _)); have HZF := Lib.hid (show jqf y1 A zs by subst hy; exact jj2 HZ.out.2.2.1 HZ.out.2.2.2 lR (fun g hn => sets6_other hn _ _ _ _ _ _)); have HY := Lib.hid hy; clear KF hy
        go_wp2_with (first | (show wpList _ _ _ ({ dst := _, op := Op.store _ _ _, type := _, pos := _, after := _, guard := _ } :: _) _ _; refine jj7 rfl _ _ _ rfl w.heap.size (.int .i64 1) (.int .i64 o) (.int .i64 0) (.int .i64 0) (.int .i64 0) (.slice A zs.length cz) rfl rfl HK.out (by kernel_rfl) rfl ?_; rw [← HY.out]))
        refine bodyPost_ret (v := .agg #[.int .i64 1, .int .i64 o, .int .i64 0, .int .i64 0, .int .i64 0, .slice A zs.length cz]) (by simp [results, Try.results55, go_sem, z0, z1, z2, z3, z4, z5]) rfl ⟨A, cz, ⟨1, o, 0, 0, 0, zs⟩, rfl, HZ.out.1, HZ.out.2.1, HZF.out, (fun ad e => Nat.le_trans (Nat.le_of_lt lR) (HZ.out.2.2.2 ad e)), HF.out.1, HF.out.2⟩
      · have e0 : ((t : Int) == 0) = false := by simp; omega
        by_cases t1 : t = 1
        · have e1 : ((t : Int) == 1) = true := by simp [t1]
          clear t0 t1 ht K9; go_wp2_with fail; refine (anOwner b _ a cap base hs _ hRU (by omega) hbU (jj9 HI.out ha hbb GrU) hl ha hbb).mono ?_; rintro e V ⟨q, rfl, hRV, hGV⟩; have HK := Lib.hid (jqj KR hGV neR); have HG := Lib.hid (And.intro (jxa (P' := P + 60) hRV (by omega)) (jqe GrU hGV)); clear hRV hGV KR hRU GrU
          obtain ⟨y1, hy⟩ : ∃ Y_, Y_ = sets6 V w.heap.size (.int .i64 2) (.int .i64 o) (.int .i64 q) (.int .i64 0) (.int .i64 0) (.slice none 0 0) := ⟨_, rfl⟩
          have KF := jjf (v0 := .int .i64 2) (v1 := .int .i64 o) (v2 := .int .i64 q) (v3 := .int .i64 0) (v4 := .int .i64 0) (v5 := .slice none 0 0) HK.out; rw [← hy] at KF; obtain ⟨z0, z1, z2, z3, z4, z5⟩ := cells6 KF; have HF := Lib.hid (show Rd y1 b (P + 60) ∧ w.grownBy y1 (some b) by subst hy; exact jj4 (g := 0) HG.out.1 hb HG.out.2 (sets6_at (Nat.le_refl _) _ _ _ _ _ _)); have HY := Lib.hid hy; clear KF hy
          go_wp2_with (first | (show wpList _ _ _ ({ dst := _, op := Op.store _ _ _, type := _, pos := _, after := _, guard := _ } :: _) _ _; refine jj7 rfl _ _ _ rfl w.heap.size (.int .i64 2) (.int .i64 o) (.int .i64 q) (.int .i64 0) (.int .i64 0) (.slice none 0 0) rfl rfl HK.out (by kernel_rfl) rfl ?_; rw [← HY.out]))
          refine bodyPost_ret (v := .agg #[.int .i64 2, .int .i64 o, .int .i64 q, .int .i64 0, .int .i64 0, .slice none 0 0]) (by simp [results, Try.results55, go_sem, z0, z1, z2, z3, z4, z5]) rfl ⟨none, 0, ⟨2, o, q, 0, 0, []⟩, rfl, (by simp), (by simp), .inl rfl, (fun ad e => by cases e), HF.out.1, HF.out.2⟩
        · have e1 : ((t : Int) == 1) = false := by simp; omega
          clear t0 t1 ht; obtain ⟨q0, q1, _, _, lt9⟩ := jx1 K9; have RU : Hid (Rd U.drew b (P + 21)) := jxa (jz3 hRU hbU (Below.refl _ _).drew) (by omega); have GU := Lib.hid GrU; have IU : Hid (IsHs U.drew a hs) := jx3 (jj9 HI.out ha hbb GrU) (Below.refl _ _).drew; have KRU := Lib.hid (fun (V : World) (hV : U.grownBy V (some b)) => jqj KR hV neR); have MK := Lib.hid (fun (V : World) (hV : U.grownBy V (some b)) => (⟨⟨(g_cell hV (o := 0) lt9 ne9).trans q0, (g_cell hV (o := 1) lt9 ne9).trans q1⟩, jqe GrU hV⟩ : (V.cell? ⟨g9, 0, none⟩ = some (.int .i64 x) ∧ V.cell? ⟨g9, 1, none⟩ = some (.int .i64 y)) ∧ w.grownBy V (some b))); clear hRU GrU KR K9 q0 q1; go_wp2_with fail; refine wp_region_held_drew (S := (fun w' => (w'.cell? ⟨g9, 0, none⟩ = some (.int .i64 x) ∧ w'.cell? ⟨g9, 1, none⟩ = some (.int .i64 y)) ∧ w.grownBy w' (some b))) (by kernel_rfl) ?_ (fun hHeld => ?_)
          · exact MK.out _ (g_of (Below.refl _ _).drew _)
          refine tk (i := 0) (v := ?v1e) rfl ?c1e ?d_1e
          case c1e => (refine .inl ⟨by rfl, ?_⟩; intro w h; (try dsimp only at h); go_simp <;> with_reducible rfl)
          try simp only [pt]
          refine tk (i := 1) (v := ?v1f) rfl ?c1f ?d_1f
          case c1f => (refine .inl ⟨by rfl, ?_⟩; intro w h; (try dsimp only at h); go_simp <;> with_reducible rfl)
          try simp only [pt]
          refine tk (i := 2) (v := ?v20) rfl ?c20 ?d_20
          case c20 => (refine .inl ⟨by rfl, ?_⟩; intro w h; (try dsimp only at h); go_simp <;> with_reducible rfl)
          try simp only [pt]
          refine tk (i := 4) (v := ?v21) rfl ?c21 ?d_21
          case c21 => (refine .inl ⟨by rfl, ?_⟩; intro w h; (try dsimp only at h); go_simp <;> with_reducible rfl)
          try simp only [pt]
          refine wpAnyH_ready (rs := [3]) (by kernel_rfl) (by simp) (AllReadyH.cons (o := ?oot27) ?hit27 (fun K hK => ?hkt27) AllReadyH.nil)
          rotate_left
          case hit27 => (simp only [List.getElem?_toArray, List.getElem?_cons_succ, List.getElem?_cons_zero]; rfl)
          (rw [if_pos (by rfl)]; go_simp; refine (anOwner b _ a cap base hs _ RU.out (by omega) hbU (IU.out) hl ha hbb).mono ?_; rintro e V ⟨q, rfl, hRV, hGV⟩; have gV := jqe (g_of (Below.refl U.heap.size U).drew (some b)) hGV; have KRV := Lib.hid (KRU.out _ gV); have HG := Lib.hid (And.intro (jxa (P' := P + 60) hRV (by omega)) (jqe GU.out gV)); have KK := MK.out _ gV; go_wp2_with fail; refine hK.out _ _ (KK) (fun hHeld => ?_); clear hK K)
          try simp only [pt]
          refine tk (i := 5) (v := ?v22) rfl ?c22 ?d_22
          case c22 => (refine .inl ⟨by rfl, ?_⟩; intro w h; (try dsimp only at h); go_simp <;> with_reducible rfl)
          try simp only [pt]
          refine wpAnyH_ready (rs := [6]) (by kernel_rfl) (by simp) (AllReadyH.cons (o := ?oot29) ?hit29 (fun K hK => ?hkt29) AllReadyH.nil)
          rotate_left
          case hit29 => (simp only [List.getElem?_toArray, List.getElem?_cons_succ, List.getElem?_cons_zero]; rfl)
          (rw [if_pos (by rfl)]; obtain ⟨fc0, fc1, fc2, fc3, fc4, fc5⟩ := cells6 KRV.out; obtain ⟨ff0, ff1, ff2, ff3, ff4, ff5⟩ := fzs6 KRV.out; go_simp; obtain ⟨y1, hy⟩ : ∃ Y_, Y_ = sets6 V w.heap.size (.int .i64 0) (.int .i64 o) (.int .i64 q) (.int .i64 x) (.int .i64 y) (.slice none 0 0) := ⟨_, rfl⟩; change K _ (sets6 _ _ _ _ _ _ _ _); rw [← hy]; have KF := jjf (v0 := .int .i64 0) (v1 := .int .i64 o) (v2 := .int .i64 q) (v3 := .int .i64 x) (v4 := .int .i64 y) (v5 := .slice none 0 0) KRV.out; rw [← hy] at KF; have HF := Lib.hid (show Rd y1 b (P + 60) ∧ w.grownBy y1 (some b) by subst hy; exact jj4 (g := 0) HG.out.1 hb HG.out.2 (sets6_at (Nat.le_refl _) _ _ _ _ _ _)); have KK : (y1.cell? ⟨g9, 0, none⟩ = some (.int .i64 x) ∧ y1.cell? ⟨g9, 1, none⟩ = some (.int .i64 y)) ∧ w.grownBy y1 (some b) := ⟨⟨(World.cell?_of_block (by subst hy; exact sets6_other neR9 _ _ _ _ _ _)).trans hHeld.1.1, (World.cell?_of_block (by subst hy; exact sets6_other neR9 _ _ _ _ _ _)).trans hHeld.1.2⟩, HF.out.2⟩; clear hy fc0 ff0 fc1 ff1 fc2 ff2 fc3 ff3 fc4 ff4 fc5 ff5; refine hK.out _ _ (KK) (fun hHeld => ?_); clear hK K)
          try simp only [pt]
          refine wpAnyH_done (by kernel_rfl) ?_ _; obtain ⟨z0, z1, z2, z3, z4, z5⟩ := cells6 KF; clear KF KK hHeld gV hRV hGV KRV HG; go_wp2_with fail; refine bodyPost_ret (v := .agg #[.int .i64 0, .int .i64 o, .int .i64 q, .int .i64 x, .int .i64 y, .slice none 0 0]) (by simp [results, Try.results55, go_sem, z0, z1, z2, z3, z4, z5]) rfl ⟨none, 0, ⟨0, o, q, x, y, []⟩, rfl, (by simp), (by simp), .inl rfl, (fun ad e => by cases e), HF.out.1, HF.out.2⟩
end Go.Proofs.Ytaehemmjemhgpaa
