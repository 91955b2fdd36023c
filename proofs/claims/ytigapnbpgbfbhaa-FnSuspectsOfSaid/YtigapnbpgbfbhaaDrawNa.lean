/- The channels that the laws draw. Condition: at most 1048576 nodes. -/
import Derived.Test.YtigapnbpgbfbhaaNodG
import Derived.Test.YtigapnbpgbfbhaaGrA
namespace Go.Proofs.Ytigapnbpgbfbhaa
open Go.RowKit
set_option linter.unusedSimpArgs false
set_option linter.unusedVariables false
theorem valsNd_set0 (xs : List Nd) (k : Nat) (z : Int) (hk : k < xs.length) : (valsNd xs).set (k * 5) (.int .i64 z) = valsNd (xs.set k (z, (xs.getD k nd0).2)) := by
  have e : (flatNd xs).set (k * 5) z = flatNd (xs.set k (z, (xs.getD k nd0).2)) := by
    revert k
    induction xs with
    | nil => intro k h; simp at h
    | cons h t ih =>
      intro k hk
      cases k with
      | zero => rfl
      | succ k =>
        have := ih k (by simpa using hk)
        rw [show (k + 1) * 5 = k * 5 + 1 + 1 + 1 + 1 + 1 from by omega]
        show h.1 :: h.2.1 :: h.2.2.1 :: h.2.2.2.1 :: h.2.2.2.2 :: ((flatNd t).set (k * 5) z) = _
        rw [this]; rfl
  unfold valsNd
  rw [← e, List.map_set]
theorem valsNd_set1 (xs : List Nd) (k : Nat) (z : Int) (hk : k < xs.length) : (valsNd xs).set (k * 5 + 1) (.int .i64 z) = valsNd (xs.set k ((xs.getD k nd0).1, z, (xs.getD k nd0).2.2)) := by
  have e : (flatNd xs).set (k * 5 + 1) z = flatNd (xs.set k ((xs.getD k nd0).1, z, (xs.getD k nd0).2.2)) := by
    revert k
    induction xs with
    | nil => intro k h; simp at h
    | cons h t ih =>
      intro k hk
      cases k with
      | zero => rfl
      | succ k =>
        have := ih k (by simpa using hk)
        rw [show (k + 1) * 5 + 1 = k * 5 + 1 + 1 + 1 + 1 + 1 + 1 from by omega]
        show h.1 :: h.2.1 :: h.2.2.1 :: h.2.2.2.1 :: h.2.2.2.2 :: ((flatNd t).set (k * 5 + 1) z) = _
        rw [this]; rfl
  unfold valsNd
  rw [← e, List.map_set]
theorem valsNd_set3 (xs : List Nd) (k : Nat) (z : Int) (hk : k < xs.length) : (valsNd xs).set (k * 5 + 3) (.int .i64 z) = valsNd (xs.set k ((xs.getD k nd0).1, (xs.getD k nd0).2.1, (xs.getD k nd0).2.2.1, z, (xs.getD k nd0).2.2.2.2)) := by
  have e : (flatNd xs).set (k * 5 + 3) z = flatNd (xs.set k ((xs.getD k nd0).1, (xs.getD k nd0).2.1, (xs.getD k nd0).2.2.1, z, (xs.getD k nd0).2.2.2.2)) := by
    revert k
    induction xs with
    | nil => intro k h; simp at h
    | cons h t ih =>
      intro k hk
      cases k with
      | zero => rfl
      | succ k =>
        have := ih k (by simpa using hk)
        rw [show (k + 1) * 5 + 3 = k * 5 + 3 + 1 + 1 + 1 + 1 + 1 from by omega]
        show h.1 :: h.2.1 :: h.2.2.1 :: h.2.2.2.1 :: h.2.2.2.2 :: ((flatNd t).set (k * 5 + 3) z) = _
        rw [this]; rfl
  unfold valsNd
  rw [← e, List.map_set]
/-- what someNodes leaves -/
def SomeNd (w : World) (b : Nat) (P : Int) (e : Ending) (w' : World) : Prop := ∃ (v : Value) (xs : List Nd), e = .returned v ∧ 1 ≤ xs.length ∧ xs.length ≤ 10 ∧ OwnNd w' w.heap.size v xs ∧ Rd w' b (P + 60) ∧ w.grownBy w' (some b)
set_option maxRecDepth 100000 in
set_option maxHeartbeats 8000000 in
theorem someNd (b : Nat) (P : Int) (w : World) (h : Rd w b P) (hP : P ≤ 80000) (hb : b < w.heap.size) :
    Calls Try.prog 73 #[.pointer (some ⟨b, 0, none⟩)] w (SomeNd w b P) := by
  obtain ⟨i0, hi, hz0, hz1, hz2⟩ := info_parts infoNd
  go_enter Try.func73, Try.ntmps73
  go_wp2_with fail
  refine (one_lit b 3 P 0 5 [0, 2, 5] _ w h (by omega) hb rfl (by omega) (by omega) (by simp)).mono ?_
  rintro e w2 ⟨l, rfl, l0, l1, hR2, hG2⟩
  have hb2 := Nat.lt_of_lt_of_le hb hG2.size
  clear h
  go_wp2_with fail
  refine (one_lit b 3 _ 0 500 [500, 100, 60] _ w2 hR2 (by omega) hb2 rfl (by omega) (by omega) (by simp)).mono ?_
  rintro e w3 ⟨r, rfl, r0, r1, hR3, hG3⟩
  have hb3 := Nat.lt_of_lt_of_le hb2 hG3.size
  have G3 := g_trans hG2 hG3
  clear hR2 hG2 hG3
  go_wp2_with fail
  refine (pick_any b _ 3 _ hR3 (by omega)).mono ?_
  rintro e w4 ⟨d, rfl, hd, hR4, hG4⟩
  have hb4 := Nat.lt_of_lt_of_le hb3 hG4.size
  have G4 := g_trans G3 hG4
  have hs4 := G4.size
  have hO4 : OwnNd (w4.alloc (.cells #[.int .i64 (-1), .int .i64 0, .int .i64 l, .int .i64 r, .int .i64 (d : Int)] 47)) w.heap.size (.slice (some ⟨w4.heap.size, 0, none⟩) 1 1) [(-1, 0, l, r, (d : Int))] := World.ownsRow_lit w4 #[.int .i64 (-1), .int .i64 0, .int .i64 l, .int .i64 r, .int .i64 (d : Int)] 1 hs4 (by unfold maxLen; omega) rfl
  have HO4 := Lib.hid hO4
  have HR4 := Lib.hid (rd_alloc hR4 hb4 (.cells #[.int .i64 (-1), .int .i64 0, .int .i64 l, .int .i64 r, .int .i64 (d : Int)] 47))
  have HG4 := Lib.hid (g_alloc G4 (.cells #[.int .i64 (-1), .int .i64 0, .int .i64 l, .int .i64 r, .int .i64 (d : Int)] 47))
  clear hO4 hR3 G3 hG4 hR4 G4 hd
  go_wp2_with fail
  have hs5 : w4.heap.size + 1 = (w4.alloc (.cells #[.int .i64 (-1), .int .i64 0, .int .i64 l, .int .i64 r, .int .i64 (d : Int)] 47)).heap.size := by simp
  have hs6 : w.heap.size < (w4.alloc (.cells #[.int .i64 (-1), .int .i64 0, .int .i64 l, .int .i64 r, .int .i64 (d : Int)] 47)).heap.size := by simp; omega
  rw [hs5]
  generalize w4.alloc (.cells #[.int .i64 (-1), .int .i64 0, .int .i64 l, .int .i64 r, .int .i64 (d : Int)] 47) = w5 at *
  refine (one_lit b 6 _ 0 9 [4, 3, 6, 2, 0, 9] _ w5 HR4.out (by omega) (by omega) rfl (by omega) (by omega) (by simp)).mono ?_
  rintro e w6 ⟨m, rfl, m0, m1, hR6, hG6⟩
  have HO6 := Lib.hid (World.ownsRow.kept HO4.out hG6 (.inr (by simp [Value.ownBlock]; omega)))
  have HR6 := Lib.hid (rd_up (P' := P + 4 + 5 * ((0 : Nat) : Int)) hR6 (by omega))
  have HG6 := Lib.hid (g_trans HG4.out hG6)
  have hs7 : w.heap.size < w6.heap.size := by have := hG6.size; omega
  clear hG6 hR6 HO4 HR4 HG4
  go_wp2_with fail
  go_loopw [3, 4] (fun v q wr => ∃ (k : Nat) (xs : List Nd), (k : Int) ≤ m ∧ q = .int .i64 (m - k) ∧ OwnNd wr w.heap.size v xs ∧ xs.length = k + 1 ∧ Rd wr b (P + 4 + 5 * (k : Int)) ∧ w.grownBy wr (some b) ∧ w.heap.size < wr.heap.size) (fun _ q _ => (intOf q).toNat)
  case atStart => exact ⟨0, [(-1, 0, l, r, (d : Int))], by omega, by go_num, HO6.out, rfl, HR6.out, HG6.out, hs7⟩
  case round =>
    clear HO6 HR6 HG6
    obtain ⟨k, xs, hk, rfl, hown, hxl, hR, hG, hsz⟩ := hrel
    by_cases hlt : (k : Int) < m
    · obtain ⟨vb, vc, rfl, _⟩ := own_nd hown
      have HX := Lib.hid hxl
      have HO := Lib.hid hown
      have HG := Lib.hid hG
      have hxb : xs.length ≤ 10 := by omega
      have hxb1 : 1 ≤ xs.length := by omega
      have hbr : b < wr.heap.size := by omega
      clear hown hxl hG
      go_wp2_with fail
      refine (pick_any b _ (xs.length : Int) _ hR (by omega)).mono ?_
      rintro e w7 ⟨p, rfl, hp, hR7, hG7⟩
      have hb7 := Nat.lt_of_lt_of_le hbr hG7.size
      have s7 := hG7.size
      clear hR
      go_wp2_with fail
      refine (one_lit b 6 _ 0 10 [1, 2, 3, 5, 0, 10] _ w7 hR7 (by omega) hb7 rfl (by omega) (by omega) (by simp)).mono ?_
      rintro e w8 ⟨wt, rfl, t0, t1, hR8, hG8⟩
      have hb8 := Nat.lt_of_lt_of_le hb7 hG8.size
      have s8 := hG8.size
      have G8 := g_trans hG7 hG8
      clear hR7 hG7 hG8
      go_wp2_with fail
      refine (one_lit b 3 _ 0 3 [0, 1, 3] _ w8 hR8 (by omega) hb8 rfl (by omega) (by omega) (by simp)).mono ?_
      rintro e w9 ⟨ls, rfl, ls0, ls1, hR9, hG9⟩
      have hb9 := Nat.lt_of_lt_of_le hb8 hG9.size
      have s9 := hG9.size
      have G9 := g_trans G8 hG9
      clear hR8 hG9 G8
      go_wp2_with fail
      refine (one_lit b 4 _ 0 500 [500, 30, 10, 100] _ w9 hR9 (by omega) hb9 rfl (by omega) (by omega) (by simp)).mono ?_
      rintro e w10 ⟨rm, rfl, rm0, rm1, hR10, hG10⟩
      have hb10 := Nat.lt_of_lt_of_le hb9 hG10.size
      have s10 := hG10.size
      have G10 := g_trans G9 hG10
      clear hR9 hG10 G9
      go_wp2_with fail
      refine (pick_any b _ 4 _ hR10 (by omega)).mono ?_
      rintro e w11 ⟨dl, rfl, hdl, hR11, hG11⟩
      have s11 := hG11.size
      have G11 := g_trans G10 hG11
      have hO11 : OwnNd w11 w.heap.size (.slice vb xs.length vc) xs := World.ownsRow.kept HO.out G11 (.inr (by intro h; have := (World.ownsRow.lt HO.out b h).1; omega))
      have HR11 := Lib.hid hR11
      have HG11 := Lib.hid (g_trans HG.out G11)
      have HO11 := Lib.hid hO11
      have hs11 : w.heap.size < w11.heap.size := by omega
      clear hR10 hG11 G10 G11 hR11 hO11 HO HG hp hdl
      go_wp2_with (first | (at_builtin; refine wpList_append_own _ rfl (.tmp 22) (.tmp 39) _ rfl w.heap.size 47 i0 _ 5 40 Try.underlying26 hi hz0 hz1 hz2 rfl (by decide) _ _ _ rfl (World.ownsRow.alloc HO11.out _) ⟨w11.heap.size, 0, none⟩ 1 1 [.int .i64 (p : Int), .int .i64 wt, .int .i64 ls, .int .i64 rm, .int .i64 (dl : Int)] rfl rfl (new_cells w11 _ _) (valsNd_one [((p : Int), wt, ls, rm, (dl : Int))]) (by unfold maxLen; omega) (by omega) (by simp; omega) ?_; intro v' w12 hown' hgrow6 hnil6))
      have hB12 : Below w.heap.size w11 w12 := ((Below.refl _ w11).alloc (Nat.le_of_lt hs11) _).grown hgrow6 (by simp; omega) (fun q hq => (World.ownsRow.lt HO11.out q hq).1)
      clear hgrow6 hnil6
      obtain ⟨R12, G12⟩ := rd_end (P := P + 4 + 5 * ((k + 1 : Nat) : Int)) hb (rd_up (P' := P + 4 + 5 * ((k + 1 : Nat) : Int)) HR11.out (by omega)) rfl HG11.out hB12
      have hO12 : OwnNd w12 w.heap.size v' (xs ++ [((p : Int), wt, ls, rm, (dl : Int))]) := by
        unfold OwnNd
        rw [List.length_append, valsNd_append]; exact hown'
      have HF : Hid (OwnNd w12 w.heap.size v' (xs ++ [((p : Int), wt, ls, rm, (dl : Int))]) ∧ Rd w12 b (P + 4 + 5 * ((k + 1 : Nat) : Int)) ∧ w.grownBy w12 (some b) ∧ w.heap.size < w12.heap.size) := ⟨hO12, R12, G12, by have := hB12.size; omega⟩
      clear hown' hB12 R12 G12 hO12
      go_roundw
      case rel => exact ⟨k + 1, xs ++ [((p : Int), wt, ls, rm, (dl : Int))], by omega, by go_num, HF.out.1, by rw [List.length_append, HX.out]; rfl, HF.out.2.1, HF.out.2.2.1, HF.out.2.2.2⟩
      case measure => simp [intOf]; omega
    · have e : (k : Int) = m := by omega
      have HF : Hid (OwnNd wr w.heap.size u3 xs ∧ Rd wr b (P + 60) ∧ w.grownBy wr (some b)) := ⟨hown, rd_up hR (by omega), hG⟩
      have HX := Lib.hid hxl
      clear hown hR hG hxl
      go_wp2_with fail
      go_ret
      have hx := HX.out
      exact ⟨_, xs, rfl, by omega, by omega, HF.out.1, HF.out.2.1, HF.out.2.2⟩
/-- what anyNodes leaves -/
def AnyNd (w : World) (b : Nat) (P : Int) (e : Ending) (w' : World) : Prop := ∃ (a : Option Addr) (cap : Nat) (xs : List Nd), e = .returned (.slice a xs.length cap) ∧ 1 ≤ xs.length ∧ xs.length ≤ 10 ∧ xs.length ≤ cap ∧ IsNd w' a xs ∧ (∀ ad, a = some ad → w.heap.size ≤ ad.block) ∧ Rd w' b (P + 63) ∧ w.grownBy w' (some b)
theorem own_isnd {w : World} {base g cp n : Nat} {xs : List Nd} (h : w.ownsRow base 47 5 (.slice (some ⟨g, 0, none⟩) n cp) n (valsNd xs)) (hl : xs.length = n) : IsNd w (some ⟨g, 0, none⟩) xs ∧ n ≤ cp := by
  subst hl
  obtain ⟨b', c', e, hI⟩ := own_nd (show OwnNd w base _ xs from h)
  injection e with e1 e2 e3
  subst e1
  refine ⟨hI, ?_⟩
  rcases h.2 with ⟨hv, hn⟩ | ⟨g', cap', cur, hv, hg, hb, hc, _⟩
  · rw [hn]; exact Nat.zero_le _
  · injection hv with e1 e2 e3; omega
set_option maxRecDepth 100000 in
set_option maxHeartbeats 8000000 in
theorem anyNd (b : Nat) (P : Int) (w : World) (h : Rd w b P) (hP : P ≤ 70000) (hb : b < w.heap.size) :
    Calls Try.prog 57 #[.pointer (some ⟨b, 0, none⟩)] w (AnyNd w b P) := by
  go_enter Try.func57, Try.ntmps57
  go_wp2_with fail
  refine (someNd b P _ h (by omega) hb).mono ?_
  rintro e w1 ⟨v, xs, rfl, k1, k6, hO, hR1, hG1⟩
  have hb1 := Nat.lt_of_lt_of_le hb hG1.size
  obtain ⟨g, cp, rfl, lg, ltg⟩ := World.ownsRow.form hO (by omega)
  clear h
  go_wp2_with fail
  refine (pick_any b _ (xs.length : Int) _ hR1 (by omega)).mono ?_
  rintro e w2 ⟨k, rfl, hk', hR2, hG2⟩
  have hb2 := Nat.lt_of_lt_of_le hb1 hG2.size
  have hk : k < xs.length := by omega
  clear hk' hR1
  go_wp2_with fail
  refine (pick_any b _ 20 _ hR2 (by omega)).mono ?_
  rintro e w3 ⟨p, rfl, hp, hR3, hG3⟩
  have hb3 := Nat.lt_of_lt_of_le hb2 hG3.size
  have G23 := g_trans hG2 hG3
  have HO3 : Hid (OwnNd w3 w.heap.size (.slice (some ⟨g, 0, none⟩) xs.length cp) xs) := World.ownsRow.kept hO G23 (.inr (by simp [Value.ownBlock]; omega))
  have G3 := Lib.hid (g_trans hG1 G23)
  have i0 : (0 : Int) ≤ (k : Int) := by omega
  have i1 : (k : Int) < (xs.length : Int) := by omega
  clear hO hG1 hG2 hG3 G23 hR2
  by_cases p0 : p = 0
  · subst p0
    clear hp
    go_wp2_with fail
    refine (one_lit b 3 _ (-1) 12 [-1, (k : Int), 12] _ w3 hR3 (by omega) hb3 rfl (by omega) (by omega) (by simp; omega)).mono ?_
    rintro e w4 ⟨z, rfl, z0, z1, hR4, hG4⟩
    have hO4 : OwnNd w4 w.heap.size (.slice (some ⟨g, 0, none⟩) xs.length cp) xs := World.ownsRow.kept HO3.out hG4 (.inr (by simp [Value.ownBlock]; omega))
    have G4 := g_trans G3.out hG4
    have hc0 := World.ownsRow.cellAt hO4 (k * 5) (by omega)
    rw [(valsNd_get (xs := xs) (k := k) hk).1] at hc0
    have hf0 := World.ownsRow.frozenAt hO4 (k * 5)
    have hS := (World.ownsRow.stored hO4 (k * 5) (.int .i64 z)).1
    rw [valsNd_set0 xs k z hk] at hS
    have hB : Below w.heap.size w4 (w4.setCell ⟨g, k * 5, none⟩ (.int .i64 z)) := (Below.refl _ _).setCell (p := ⟨g, k * 5, none⟩) lg _
    have hfin := rd_end (P := P + 63) hb (rd_up (P' := P + 63) hR4 (by omega)) rfl G4 hB
    have HS := Lib.hid (And.intro hS hfin)
    generalize (xs.getD k nd0).1 = x0 at hc0
    clear hS hfin hB hO4 hG4 G4 hR4 hR3
    go_wp2_with fail
    go_ret
    have hl2 : (xs.set k (z, (xs.getD k nd0).2)).length = xs.length := List.length_set
    obtain ⟨I, hcp⟩ := own_isnd HS.out.1 hl2
    exact ⟨some ⟨g, 0, none⟩, cp, _, by rw [hl2]; rfl, by omega, by omega, by omega, I, (fun ad e => by injection e with e; subst e; exact lg), HS.out.2.1, HS.out.2.2⟩
  · have e0 : ((p : Int) == 0) = false := by simp; omega
    have e0' : (p == 0) = false := by simpa using p0
    by_cases p1 : p = 1
    · subst p1
      clear hp
      go_wp2_with fail
      refine (one_lit b 2 _ (-1) 501 [-1, 501] _ w3 hR3 (by omega) hb3 rfl (by omega) (by omega) (by simp)).mono ?_
      rintro e w4 ⟨z, rfl, z0, z1, hR4, hG4⟩
      have hO4 : OwnNd w4 w.heap.size (.slice (some ⟨g, 0, none⟩) xs.length cp) xs := World.ownsRow.kept HO3.out hG4 (.inr (by simp [Value.ownBlock]; omega))
      have G4 := g_trans G3.out hG4
      have hc0 := World.ownsRow.cellAt hO4 (k * 5 + 3) (by omega)
      rw [(valsNd_get (xs := xs) (k := k) hk).2.2.2.1] at hc0
      have hf0 := World.ownsRow.frozenAt hO4 (k * 5 + 3)
      have hS := (World.ownsRow.stored hO4 (k * 5 + 3) (.int .i64 z)).1
      rw [valsNd_set3 xs k z hk] at hS
      have hB : Below w.heap.size w4 (w4.setCell ⟨g, k * 5 + 3, none⟩ (.int .i64 z)) := (Below.refl _ _).setCell (p := ⟨g, k * 5 + 3, none⟩) lg _
      have hfin := rd_end (P := P + 63) hb (rd_up (P' := P + 63) hR4 (by omega)) rfl G4 hB
      have HS := Lib.hid (And.intro hS hfin)
      generalize (xs.getD k nd0).2.2.2.1 = x0 at hc0
      clear hS hfin hB hO4 hG4 G4 hR4 hR3
      go_wp2_with fail
      go_ret
      have hl2 : (xs.set k ((xs.getD k nd0).1, (xs.getD k nd0).2.1, (xs.getD k nd0).2.2.1, z, (xs.getD k nd0).2.2.2.2)).length = xs.length := List.length_set
      obtain ⟨I, hcp⟩ := own_isnd HS.out.1 hl2
      exact ⟨some ⟨g, 0, none⟩, cp, _, by rw [hl2]; rfl, by omega, by omega, by omega, I, (fun ad e => by injection e with e; subst e; exact lg), HS.out.2.1, HS.out.2.2⟩
    · have e1 : ((p : Int) == 1) = false := by simp; omega
      have e1' : (p == 1) = false := by simpa using p1
      by_cases p2 : p = 2
      · subst p2
        clear hp
        go_wp2_with fail
        refine (one_lit b 2 _ (-1) 1001 [-1, 1001] _ w3 hR3 (by omega) hb3 rfl (by omega) (by omega) (by simp)).mono ?_
        rintro e w4 ⟨z, rfl, z0, z1, hR4, hG4⟩
        have hO4 : OwnNd w4 w.heap.size (.slice (some ⟨g, 0, none⟩) xs.length cp) xs := World.ownsRow.kept HO3.out hG4 (.inr (by simp [Value.ownBlock]; omega))
        have G4 := g_trans G3.out hG4
        have hc0 := World.ownsRow.cellAt hO4 (k * 5 + 1) (by omega)
        rw [(valsNd_get (xs := xs) (k := k) hk).2.1] at hc0
        have hf0 := World.ownsRow.frozenAt hO4 (k * 5 + 1)
        have hS := (World.ownsRow.stored hO4 (k * 5 + 1) (.int .i64 z)).1
        rw [valsNd_set1 xs k z hk] at hS
        have hB : Below w.heap.size w4 (w4.setCell ⟨g, k * 5 + 1, none⟩ (.int .i64 z)) := (Below.refl _ _).setCell (p := ⟨g, k * 5 + 1, none⟩) lg _
        have hfin := rd_end (P := P + 63) hb (rd_up (P' := P + 63) hR4 (by omega)) rfl G4 hB
        have HS := Lib.hid (And.intro hS hfin)
        generalize (xs.getD k nd0).2.1 = x0 at hc0
        clear hS hfin hB hO4 hG4 G4 hR4 hR3
        go_wp2_with fail
        go_ret
        have hl2 : (xs.set k ((xs.getD k nd0).1, z, (xs.getD k nd0).2.2)).length = xs.length := List.length_set
        obtain ⟨I, hcp⟩ := own_isnd HS.out.1 hl2
        exact ⟨some ⟨g, 0, none⟩, cp, _, by rw [hl2]; rfl, by omega, by omega, by omega, I, (fun ad e => by injection e with e; subst e; exact lg), HS.out.2.1, HS.out.2.2⟩
      · have e2 : ((p : Int) == 2) = false := by simp; omega
        have e2' : (p == 2) = false := by simpa using p2
        have HF := Lib.hid (rd_up (P' := P + 63) hR3 (by omega))
        clear hp hR3 p0 p1 p2
        go_wp2_with fail
        go_ret
        obtain ⟨I, hcp⟩ := own_isnd HO3.out rfl
        exact ⟨some ⟨g, 0, none⟩, cp, xs, rfl, by omega, by omega, by omega, I, (fun ad e => by injection e with e; subst e; exact lg), HF.out, G3.out⟩
theorem nd_grown {w w' : World} {a : Option Addr} {xs : List Nd} {b base : Nat} (h : IsNd w a xs) (hb : ∀ ad, a = some ad → base ≤ ad.block) (hlt : b < base) (hG : w.grownBy w' (some b)) : IsNd w' a xs := by
  rcases h with h | ⟨g, o, ha, hc⟩
  · exact .inl h
  · refine .inr ⟨g, o, ha, fun i hi => ?_⟩
    have hg := hb _ ha
    have hne : g ≠ b := by
      have : base ≤ g := hg
      omega
    obtain ⟨c0, c1, c2, c3, c4⟩ := hc i hi
    have k : ∀ {o : Nat} {u : Value}, w.cell? ⟨g, o, none⟩ = some u → w'.cell? ⟨g, o, none⟩ = some u := fun c => (g_cell hG (World.block_lt_of_cell? w _ c) hne).trans c
    exact ⟨k c0, k c1, k c2, k c3, k c4⟩
theorem ints_grown {w w' : World} {a : Option Addr} {zs : List Int} {b base : Nat} (h : IsInts w a zs) (hb : ∀ ad, a = some ad → base ≤ ad.block) (hlt : b < base) (hG : w.grownBy w' (some b)) : IsInts w' a zs := by
  rcases h with h | ⟨g, o, ha, hc⟩
  · exact .inl h
  · refine .inr ⟨g, o, ha, fun i hi => ?_⟩
    have hg := hb _ ha
    have hne : g ≠ b := by
      have : base ≤ g := hg
      omega
    exact (g_cell hG (World.block_lt_of_cell? w _ (hc i hi)) hne).trans (hc i hi)
end Go.Proofs.Ytigapnbpgbfbhaa
