/- The ledgers and owners that the laws draw. Condition: the reader has read at most 80000 numbers before. -/
import Derived.Test.YthagafkjlecagabDrawHd
namespace Go.Proofs.Ythagafkjlecagab
open Go.RowKit
set_option linter.unusedSimpArgs false
set_option linter.unusedVariables false

theorem valsH_cons (h : Hd) (t : List Hd) : valsH (h :: t) = .int .i64 h.1 :: .int .i64 h.2.1 :: .int .i64 h.2.2 :: valsH t := rfl
theorem valsH_setO : ∀ (hs : List Hd) (j : Nat) (z : Int), j < hs.length → (valsH hs).set (j * 3) (.int .i64 z) = valsH (hs.set j (z, (hs.getD j hd0).2)) := by
  intro hs
  induction hs with
  | nil => intro j z h; exact absurd h (Nat.not_lt_zero _)
  | cons h t ih =>
    intro j z hj
    cases j with
    | zero => rfl
    | succ j =>
      have hl : j < t.length := by simpa using hj
      rw [valsH_cons, show (j + 1) * 3 = j * 3 + 1 + 1 + 1 from by omega, List.set_cons_succ, List.set_cons_succ, List.set_cons_succ, ih j z hl]; rfl
theorem valsH_setS {hs : List Hd} (x y : Int) (h : 0 < hs.length) : ((valsH hs).set 1 (.int .i64 x)).set 2 (.int .i64 y) = valsH (hs.set 0 ((hs.getD 0 hd0).1, x, y)) := by
  cases hs with
  | nil => exact absurd h (Nat.lt_irrefl _)
  | cons h t => rfl
theorem own_ishs {w : World} {base g cp k : Nat} {hs : List Hd} (h : w.ownsRow base 64 3 (.slice (some ⟨g, 0, none⟩) k cp) k (valsH hs)) (hl : hs.length = k) : IsHs w (some ⟨g, 0, none⟩) hs ∧ k ≤ cp := by
  subst hl
  rcases Flat.own (zs := flatH hs) h with ⟨hv, _⟩ | ⟨g', cp', hv, _, F, hc⟩
  · cases hv
  · injection hv with e1 e2 e3
    injection e1 with e1
    injection e1 with e1
    subst e1 e3
    exact ⟨F.hs, hc⟩
theorem hs_grown {w w' : World} {a : Option Addr} {hs : List Hd} {b base : Nat} (h : IsHs w a hs) (hb : ∀ ad, a = some ad → base ≤ ad.block) (hlt : b < base) (hG : w.grownBy w' (some b)) : IsHs w' a hs := by
  rcases h with h | ⟨g, o, ha, hc⟩
  · exact .inl h
  · refine .inr ⟨g, o, ha, fun i hi => ?_⟩
    have hg := hb _ ha
    have hne : g ≠ b := by
      have : base ≤ g := hg
      omega
    obtain ⟨c0, c1, c2⟩ := hc i hi
    exact ⟨(g_cell hG (World.block_lt_of_cell? w _ c0) hne).trans c0, (g_cell hG (World.block_lt_of_cell? w _ c1) hne).trans c1, (g_cell hG (World.block_lt_of_cell? w _ c2) hne).trans c2⟩

/-- what anyLedger leaves -/
def AnyHd (w : World) (b : Nat) (P : Int) (e : Ending) (w' : World) : Prop := ∃ (a : Option Addr) (cap : Nat) (hs : List Hd), e = .returned (.slice a hs.length cap) ∧ hs.length ≤ 6 ∧ hs.length ≤ cap ∧ IsHs w' a hs ∧ (∀ ad, a = some ad → w.heap.size ≤ ad.block) ∧ Rd w' b (P + 20) ∧ w.grownBy w' (some b)
theorem drop_ishs {w : World} {base g cp k : Nat} {hs : List Hd} (h : w.ownsRow base 64 3 (.slice (some ⟨g, 0, none⟩) k cp) k (valsH hs)) (hl : hs.length = k) (hk : 1 ≤ k) : IsHs w (if cp = 1 then some ⟨g, 0, none⟩ else some ⟨g, 3, none⟩) (hs.drop 1) ∧ (hs.drop 1).length = k - 1 := by
  obtain ⟨_, hc⟩ := own_ishs h hl
  have hr := (Reads.of_own h).cut (k := 1) (cap := cp) hk hc
  have e : (valsH hs).drop (1 * 3) = valsH (hs.drop 1) := vals_drop hs 1
  have hl1 : (hs.drop 1).length = k - 1 := by rw [List.length_drop]; omega
  rw [e, ← hl1] at hr
  have e2 : Option.map (fun a : Addr => a.add (1 * 3)) (some (⟨g, 0, none⟩ : Addr)) = some ⟨g, 3, none⟩ := by
    show some ((⟨g, 0, none⟩ : Addr).add 3) = _
    rw [add_off]
  rw [e2] at hr
  refine ⟨reads_hs hr (fun ad ha => ?_), hl1⟩
  split at ha <;> (injection ha with ha; subst ha; rfl)

set_option maxRecDepth 100000 in
set_option maxHeartbeats 4000000 in
theorem anyHd (b : Nat) (P : Int) (w : World) (h : Rd w b P) (hP : P ≤ 70000) (hb : b < w.heap.size) :
    Calls Try.prog 48 #[.pointer (some ⟨b, 0, none⟩)] w (AnyHd w b P) := by
  go_enter Try.func48, Try.ntmps48
  go_wp2_with fail
  refine (someHd b P _ h (by omega) hb).mono ?_
  rintro e w1 ⟨v, k, hs, rfl, k1, k6, hO, hxl, hR1, hG1⟩
  have hb1 := Nat.lt_of_lt_of_le hb hG1.size
  obtain ⟨g, cp, rfl, lg, ltg⟩ := hO.form (by omega)
  go_wp2_with fail
  refine (pick_any b _ 20 _ hR1 (by omega)).mono ?_
  rintro e w2 ⟨p, rfl, hp, hR2, hG2⟩
  have hb2 := Nat.lt_of_lt_of_le hb1 hG2.size
  have hO2 := hO.kept hG2 (.inr (by simp [Value.ownBlock]; omega))
  have G2 := g_trans hG1 hG2
  clear hO hG1 hG2 hR1
  have HXL := Lib.hid hxl
  by_cases p0 : p = 0
  · have e0 : ((p : Int) == 0) = true := by simp [p0]
    have kk : (0 : Int) < (k : Int) := by omega
    clear p0 hp
    go_wp2_with fail
    refine (anyFrac_any b _ w2 hR2 (by omega) hb2).mono ?_
    rintro e w3 ⟨x, y, rfl, _, _, _, _, hR3, hG3⟩
    have hO3 := hO2.kept hG3 (.inr (by simp [Value.ownBlock]; omega))
    have G3 := g_trans G2 hG3
    have hc0 := hO3.cellAt 1 (by omega)
    have hc1 := hO3.cellAt 2 (by omega)
    obtain ⟨_, v1, v2⟩ := vals_get (hs := hs) (k := 0) (by omega)
    simp only [Nat.zero_mul, Nat.zero_add] at v1 v2
    rw [v1] at hc0
    rw [v2] at hc1
    have hf0 := hO3.frozenAt 1
    have hf1 := hO3.frozenAt 2
    have hS := ((hO3.stored 1 (.int .i64 x)).1.stored 2 (.int .i64 y)).1
    rw [valsH_setS x y (by omega)] at hS
    have hB : Below w.heap.size w3 ((w3.setCell ⟨g, 1, none⟩ (.int .i64 x)).setCell ⟨g, 2, none⟩ (.int .i64 y)) := ((Below.refl _ _).setCell lg _).setCell lg _
    have hfin := rd_end (P := P + 20) hb (rd_up (P' := P + 20) hR3 (by omega)) rfl G3 hB
    have HS := Lib.hid (And.intro hS hfin)
    generalize (hs.getD 0 hd0).2.1 = x0 at hc0
    generalize (hs.getD 0 hd0).2.2 = x1 at hc1
    clear hS hfin hB hO3 hO2 hG3 G3 G2 hR3 hR2 hxl v1 v2
    go_wp2_with fail
    go_ret
    have hl2 : (hs.set 0 ((hs.getD 0 hd0).1, x, y)).length = k := by rw [List.length_set]; exact HXL.out
    obtain ⟨I, hcp⟩ := own_ishs HS.out.1 hl2
    exact ⟨some ⟨g, 0, none⟩, cp, hs.set 0 ((hs.getD 0 hd0).1, x, y), by rw [hl2]; rfl, by omega, by omega, I, (fun ad e => by injection e with e; subst e; exact lg), HS.out.2.1, HS.out.2.2⟩
  · have e0 : ((p : Int) == 0) = false := by simp; omega
    by_cases p1 : p = 1
    · have e1 : ((p : Int) == 1) = true := by simp [p1]
      obtain ⟨j, rfl⟩ : ∃ j, k = j + 1 := ⟨k - 1, by omega⟩
      have wj : IntKind.i64.wrap (((j + 1 : Nat) : Int) - 1) = (j : Int) := by rw [IntKind.wrap_i64]; omega
      have j0 : (0 : Int) ≤ (j : Int) := by omega
      have j1 : (j : Int) < ((j + 1 : Nat) : Int) := by omega
      clear p0 p1 hp
      have HKJ : Hid (1 ≤ j + 1 ∧ j + 1 ≤ 6) := ⟨by omega, by omega⟩
      generalize hjk : ((j + 1 : Nat) : Int) = K at *
      go_wp2_with fail
      refine (one_lit b 4 _ 0 1000 [0, 1, 1000, 999] _ w2 hR2 (by omega) hb2 rfl (by omega) (by omega) (by simp)).mono ?_
      rintro e w3 ⟨d, rfl, d0, d1, hR3, hG3⟩
      have hO3 := hO2.kept hG3 (.inr (by simp [Value.ownBlock]; omega))
      have G3 := g_trans G2 hG3
      have hc0 := hO3.cellAt (j * 3) (by omega)
      rw [(vals_get (hs := hs) (k := j) (by omega)).1] at hc0
      have hf0 := hO3.frozenAt (j * 3)
      have hS := (hO3.stored (j * 3) (.int .i64 d)).1
      rw [valsH_setO hs j d (by omega)] at hS
      have hB : Below w.heap.size w3 (w3.setCell ⟨g, j * 3, none⟩ (.int .i64 d)) := (Below.refl _ _).setCell lg _
      have hfin := rd_end (P := P + 20) hb (rd_up (P' := P + 20) hR3 (by omega)) rfl G3 hB
      have HS := Lib.hid (And.intro hS hfin)
      generalize (hs.getD j hd0).1 = x0 at hc0
      clear hS hfin hB hO3 hO2 hG3 G3 G2 hR3 hR2 hxl
      go_wp2_with fail
      go_ret
      have hl2 : (hs.set j (d, (hs.getD j hd0).2)).length = j + 1 := by rw [List.length_set]; exact HXL.out
      obtain ⟨I, hcp⟩ := own_ishs HS.out.1 hl2
      exact ⟨some ⟨g, 0, none⟩, cp, hs.set j (d, (hs.getD j hd0).2), by rw [hl2]; rfl, by omega, by omega, I, (fun ad e => by injection e with e; subst e; exact lg), HS.out.2.1, HS.out.2.2⟩
    · have e1 : ((p : Int) == 1) = false := by simp; omega
      have HF := Lib.hid (And.intro (rd_up (P' := P + 20) hR2 (by omega)) G2)
      have HO := Lib.hid hO2
      by_cases p2 : p = 2
      · have e2 : ((p : Int) == 2) = true := by simp [p2]
        have kk : (1 : Int) ≤ (k : Int) := by omega
        clear p0 p1 p2 hp hR2 G2 hO2
        obtain ⟨I, hl1⟩ := drop_ishs HO.out HXL.out (by omega)
        have hc := (own_ishs HO.out HXL.out).2
        have HI := Lib.hid I
        have HL1 := Lib.hid hl1
        clear I hl1
        by_cases c1 : cp = 1
        · subst c1
          obtain rfl : k = 1 := by omega
          go_wp2_with fail
          go_ret
          have hl1 := HL1.out
          have I := HI.out
          rw [if_pos trivial] at I
          exact ⟨some ⟨g, 0, none⟩, 0, hs.drop 1, by rw [hl1]; rfl, by omega, by omega, I, (fun ad e => by injection e with e; subst e; exact lg), HF.out.1, HF.out.2⟩
        · go_wp2_with fail
          go_ret
          have hl1 := HL1.out
          have I := HI.out
          rw [if_neg c1] at I
          exact ⟨some ⟨g, 3, none⟩, cp - 1, hs.drop 1, by rw [hl1]; rfl, by omega, by omega, I, (fun ad e => by injection e with e; subst e; exact lg), HF.out.1, HF.out.2⟩
      · have e2 : ((p : Int) == 2) = false := by simp; omega
        clear p0 p1 p2 hp hR2 G2 hO2
        go_wp2_with fail
        go_ret
        obtain ⟨I, hcp⟩ := own_ishs HO.out HXL.out
        exact ⟨some ⟨g, 0, none⟩, cp, hs, by rw [HXL.out]; rfl, by have := HXL.out; omega, by have := HXL.out; omega, I, (fun ad e => by injection e with e; subst e; exact lg), HF.out.1, HF.out.2⟩

/-- what anOwner leaves -/
def OwnerOf (w : World) (b : Nat) (P : Int) (e : Ending) (w' : World) : Prop := ∃ o : Int, e = .returned (.int .i64 o) ∧ Rd w' b (P + 3) ∧ w.grownBy w' (some b)
set_option maxRecDepth 100000 in
set_option maxHeartbeats 4000000 in
theorem anOwner (b : Nat) (P : Int) (a : Option Addr) (cap base : Nat) (hs : List Hd) (w : World) (h : Rd w b P) (hP : P ≤ 70000) (hb : b < w.heap.size) (hi : IsHs w a hs) (hl : hs.length ≤ 1048576) (ha : ∀ ad, a = some ad → base ≤ ad.block) (hbb : b < base) :
    Calls Try.prog 87 #[.pointer (some ⟨b, 0, none⟩), .slice a hs.length cap] w (OwnerOf w b P) := by
  have last : ∀ W, Rd W b (P + 1) → b < W.heap.size → w.grownBy W (some b) → True := fun _ _ _ _ => trivial
  by_cases h0 : hs.length = 0
  · have e0 : decide ((0 : Int) < (hs.length : Int)) = false := decide_eq_false (by omega)
    go_enter Try.func87, Try.ntmps87
    go_wp2_with fail
    refine (one_lit b 7 _ 0 1000 [1, 2, 5, 30, 999, 0, 1000] _ w h (by omega) hb rfl (by omega) (by omega) (by simp)).mono ?_
    rintro e w3 ⟨d, rfl, d0, d1, hR3, hG3⟩
    have HF := Lib.hid (And.intro (rd_up (P' := P + 3) hR3 (by omega)) hG3)
    clear hR3 hG3 h
    go_wp2_with fail
    go_ret
    exact ⟨d, rfl, HF.out.1, HF.out.2⟩
  · have e0 : decide ((0 : Int) < (hs.length : Int)) = true := decide_eq_true (by omega)
    go_enter Try.func87, Try.ntmps87
    go_wp2_with fail
    refine (pick_any b _ 4 _ h (by omega)).mono ?_
    rintro e w2 ⟨p, rfl, hp, hR2, hG2⟩
    have hb2 := Nat.lt_of_lt_of_le hb hG2.size
    clear hp
    by_cases p0 : p = 0
    · have e1 : decide ((0 : Int) < (p : Int)) = false := decide_eq_false (by omega)
      have e2 : decide (0 < p) = false := decide_eq_false (by omega)
      clear p0
      go_wp2_with fail
      refine (one_lit b 7 _ 0 1000 [1, 2, 5, 30, 999, 0, 1000] _ w2 hR2 (by omega) hb2 rfl (by omega) (by omega) (by simp)).mono ?_
      rintro e w3 ⟨d, rfl, d0, d1, hR3, hG3⟩
      have HF := Lib.hid (And.intro (rd_up (P' := P + 3) hR3 (by omega)) (g_trans hG2 hG3))
      clear hR3 hG3 h hR2 hG2
      go_wp2_with fail
      go_ret
      exact ⟨d, rfl, HF.out.1, HF.out.2⟩
    · have e1 : decide ((0 : Int) < (p : Int)) = true := decide_eq_true (by omega)
      have e2 : decide (0 < p) = true := decide_eq_true (by omega)
      clear p0
      go_wp2_with fail
      refine (pick_any b _ (hs.length : Int) _ hR2 (by omega)).mono ?_
      rintro e w3 ⟨u, rfl, hu, hR3, hG3⟩
      have hul : u < hs.length := by omega
      have i3 := hs_grown (hs_grown hi ha hbb hG2) ha hbb hG3
      have HF := Lib.hid (And.intro (rd_up (P' := P + 3) hR3 (by omega)) (g_trans hG2 hG3))
      rcases i3 with rfl | ⟨g, o, rfl, hc⟩
      · simp at hul
      obtain ⟨c0, _, _⟩ := hc u hul
      generalize (hs.getD u hd0).1 = x at c0
      have u0 : (0 : Int) ≤ (u : Int) := by omega
      have u1 : (u : Int) < (hs.length : Int) := by omega
      clear hR3 hG3 h hR2 hG2 hc hu hi
      go_wp2_with fail
      go_ret
      exact ⟨x, rfl, HF.out.1, HF.out.2⟩
end Go.Proofs.Ythagafkjlecagab
