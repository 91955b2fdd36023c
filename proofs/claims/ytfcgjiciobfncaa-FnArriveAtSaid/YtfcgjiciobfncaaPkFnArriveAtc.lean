/- Contracts and facts of functions of this program, in build order. Conditions: those stated in each. -/
import Derived.Test.YtfcgjiciobfncaaPkFnArriveAtb
import Derived.WalkLawsBesides
namespace Go.Proofs.Ytfcgjiciobfncaa
open Go.RowKit
set_option linter.unusedSimpArgs false
set_option linter.unusedVariables false
theorem valsNd_set0 (xs : List Nd) (k : Nat) (z : Int) (hk : k < xs.length) : (valsNd xs).set (k * 5) (.int .i64 z) = valsNd (xs.set k (z, (xs.getD k nd0).2)) := by
  have e : (flatNd xs).set (k * 5) z = flatNd (xs.set k (z, (xs.getD k nd0).2)) := by
    revert k
    induction xs with
    | nil => intro k h; simp at h
    | cons h t ih =>
      intro k hk
      cases k with
      | zero => rfl
      | succ k =>
        have := ih k (by simpa using hk)
        rw [show (k + 1) * 5 = k * 5 + 1 + 1 + 1 + 1 + 1 from by omega]
        show h.1 :: h.2.1 :: h.2.2.1 :: h.2.2.2.1 :: h.2.2.2.2 :: ((flatNd t).set (k * 5) z) = _
        rw [this]; rfl
  unfold valsNd
  rw [← e, List.map_set]
theorem valsNd_set1 (xs : List Nd) (k : Nat) (z : Int) (hk : k < xs.length) : (valsNd xs).set (k * 5 + 1) (.int .i64 z) = valsNd (xs.set k ((xs.getD k nd0).1, z, (xs.getD k nd0).2.2)) := by
  have e : (flatNd xs).set (k * 5 + 1) z = flatNd (xs.set k ((xs.getD k nd0).1, z, (xs.getD k nd0).2.2)) := by
    revert k
    induction xs with
    | nil => intro k h; simp at h
    | cons h t ih =>
      intro k hk
      cases k with
      | zero => rfl
      | succ k =>
        have := ih k (by simpa using hk)
        rw [show (k + 1) * 5 + 1 = k * 5 + 1 + 1 + 1 + 1 + 1 + 1 from by omega]
        show h.1 :: h.2.1 :: h.2.2.1 :: h.2.2.2.1 :: h.2.2.2.2 :: ((flatNd t).set (k * 5 + 1) z) = _
        rw [this]; rfl
  unfold valsNd
  rw [← e, List.map_set]
theorem valsNd_set3 (xs : List Nd) (k : Nat) (z : Int) (hk : k < xs.length) : (valsNd xs).set (k * 5 + 3) (.int .i64 z) = valsNd (xs.set k ((xs.getD k nd0).1, (xs.getD k nd0).2.1, (xs.getD k nd0).2.2.1, z, (xs.getD k nd0).2.2.2.2)) := by
  have e : (flatNd xs).set (k * 5 + 3) z = flatNd (xs.set k ((xs.getD k nd0).1, (xs.getD k nd0).2.1, (xs.getD k nd0).2.2.1, z, (xs.getD k nd0).2.2.2.2)) := by
    revert k
    induction xs with
    | nil => intro k h; simp at h
    | cons h t ih =>
      intro k hk
      cases k with
      | zero => rfl
      | succ k =>
        have := ih k (by simpa using hk)
        rw [show (k + 1) * 5 + 3 = k * 5 + 3 + 1 + 1 + 1 + 1 + 1 from by omega]
        show h.1 :: h.2.1 :: h.2.2.1 :: h.2.2.2.1 :: h.2.2.2.2 :: ((flatNd t).set (k * 5 + 3) z) = _
        rw [this]; rfl
  unfold valsNd
  rw [← e, List.map_set]
/-- what someNodes leaves -/
def SomeNd (w : World) (b : Nat) (P : Int) (e : Ending) (w' : World) : Prop := ∃ (v : Value) (xs : List Nd), e = .returned v ∧ 1 ≤ xs.length ∧ xs.length ≤ 10 ∧ OwnNd w' w.heap.size v xs ∧ Rd w' b (P + 60) ∧ w.grownBy w' (some b)
set_option maxRecDepth 100000 in
set_option maxHeartbeats 8000000 in
theorem someNd (b : Nat) (P : Int) (w : World) (h : Rd w b P) (hP : P ≤ 80000) (hb : b < w.heap.size) :
    Calls Try.prog 100 #[.pointer (some ⟨b, 0, none⟩)] w (SomeNd w b P) := by
  obtain ⟨i0, hi, hz0, hz1, hz2⟩ := info_parts infoNd
  go_enter Try.func100, Try.ntmps100
  go_wp2_with fail
  refine (one_lit b 3 P 0 5 [0, 2, 5] _ w h (by omega) hb rfl (by omega) (by omega) (by simp)).mono ?_
  rintro e w2 ⟨l, rfl, l0, l1, hR2, hG2⟩
  have hb2 := Nat.lt_of_lt_of_le hb hG2.size
  clear h
  go_wp2_with fail
  refine (one_lit b 3 _ 0 500 [500, 100, 60] _ w2 hR2 (by omega) hb2 rfl (by omega) (by omega) (by simp)).mono ?_
  rintro e w3 ⟨r, rfl, r0, r1, hR3, hG3⟩
  have hb3 := Nat.lt_of_lt_of_le hb2 hG3.size
  have G3 := g_trans hG2 hG3
  clear hR2 hG2 hG3
  go_wp2_with fail
  refine (pick_any b _ 3 _ hR3 (by omega)).mono ?_
  rintro e w4 ⟨d, rfl, hd, hR4, hG4⟩
  have hb4 := Nat.lt_of_lt_of_le hb3 hG4.size
  have G4 := g_trans G3 hG4
  have hs4 := G4.size
  have hO4 : OwnNd (w4.alloc (.cells #[.int .i64 (-1), .int .i64 0, .int .i64 l, .int .i64 r, .int .i64 (d : Int)] 60)) w.heap.size (.slice (some ⟨w4.heap.size, 0, none⟩) 1 1) [(-1, 0, l, r, (d : Int))] := World.ownsRow_lit w4 #[.int .i64 (-1), .int .i64 0, .int .i64 l, .int .i64 r, .int .i64 (d : Int)] 1 hs4 (by unfold maxLen; omega) rfl
  have HO4 := Lib.hid hO4
  have HR4 := Lib.hid (rd_alloc hR4 hb4 (.cells #[.int .i64 (-1), .int .i64 0, .int .i64 l, .int .i64 r, .int .i64 (d : Int)] 60))
  have HG4 := Lib.hid (g_alloc G4 (.cells #[.int .i64 (-1), .int .i64 0, .int .i64 l, .int .i64 r, .int .i64 (d : Int)] 60))
  clear hO4 hR3 G3 hG4 hR4 G4 hd
  go_wp2_with fail
  have hs5 : w4.heap.size + 1 = (w4.alloc (.cells #[.int .i64 (-1), .int .i64 0, .int .i64 l, .int .i64 r, .int .i64 (d : Int)] 60)).heap.size := by simp
  have hs6 : w.heap.size < (w4.alloc (.cells #[.int .i64 (-1), .int .i64 0, .int .i64 l, .int .i64 r, .int .i64 (d : Int)] 60)).heap.size := by simp; omega
  rw [hs5]
  generalize w4.alloc (.cells #[.int .i64 (-1), .int .i64 0, .int .i64 l, .int .i64 r, .int .i64 (d : Int)] 60) = w5 at *
  refine (one_lit b 6 _ 0 9 [4, 3, 6, 2, 0, 9] _ w5 HR4.out (by omega) (by omega) rfl (by omega) (by omega) (by simp)).mono ?_
  rintro e w6 ⟨m, rfl, m0, m1, hR6, hG6⟩
  have HO6 := Lib.hid (World.ownsRow.kept HO4.out hG6 (.inr (by simp [Value.ownBlock]; omega)))
  have HR6 := Lib.hid (rd_up (P' := P + 4 + 5 * ((0 : Nat) : Int)) hR6 (by omega))
  have HG6 := Lib.hid (g_trans HG4.out hG6)
  have hs7 : w.heap.size < w6.heap.size := by have := hG6.size; omega
  clear hG6 hR6 HO4 HR4 HG4
  go_wp2_with fail
  go_loopw [3, 4] (fun v q wr => ∃ (k : Nat) (xs : List Nd), (k : Int) ≤ m ∧ q = .int .i64 (m - k) ∧ OwnNd wr w.heap.size v xs ∧ xs.length = k + 1 ∧ Rd wr b (P + 4 + 5 * (k : Int)) ∧ w.grownBy wr (some b) ∧ w.heap.size < wr.heap.size) (fun _ q _ => (intOf q).toNat)
  case atStart => exact ⟨0, [(-1, 0, l, r, (d : Int))], by omega, by go_num, HO6.out, rfl, HR6.out, HG6.out, hs7⟩
  case round =>
    clear HO6 HR6 HG6
    obtain ⟨k, xs, hk, rfl, hown, hxl, hR, hG, hsz⟩ := hrel
    by_cases hlt : (k : Int) < m
    · obtain ⟨vb, vc, rfl, _⟩ := own_nd hown
      have HX := Lib.hid hxl
      have HO := Lib.hid hown
      have HG := Lib.hid hG
      have hxb : xs.length ≤ 10 := by omega
      have hxb1 : 1 ≤ xs.length := by omega
      have hbr : b < wr.heap.size := by omega
      clear hown hxl hG
      go_wp2_with fail
      refine (pick_any b _ (xs.length : Int) _ hR (by omega)).mono ?_
      rintro e w7 ⟨p, rfl, hp, hR7, hG7⟩
      have hb7 := Nat.lt_of_lt_of_le hbr hG7.size
      have s7 := hG7.size
      clear hR
      go_wp2_with fail
      refine (one_lit b 6 _ 0 10 [1, 2, 3, 5, 0, 10] _ w7 hR7 (by omega) hb7 rfl (by omega) (by omega) (by simp)).mono ?_
      rintro e w8 ⟨wt, rfl, t0, t1, hR8, hG8⟩
      have hb8 := Nat.lt_of_lt_of_le hb7 hG8.size
      have s8 := hG8.size
      have G8 := g_trans hG7 hG8
      clear hR7 hG7 hG8
      go_wp2_with fail
      refine (one_lit b 3 _ 0 3 [0, 1, 3] _ w8 hR8 (by omega) hb8 rfl (by omega) (by omega) (by simp)).mono ?_
      rintro e w9 ⟨ls, rfl, ls0, ls1, hR9, hG9⟩
      have hb9 := Nat.lt_of_lt_of_le hb8 hG9.size
      have s9 := hG9.size
      have G9 := g_trans G8 hG9
      clear hR8 hG9 G8
      go_wp2_with fail
      refine (one_lit b 4 _ 0 500 [500, 30, 10, 100] _ w9 hR9 (by omega) hb9 rfl (by omega) (by omega) (by simp)).mono ?_
      rintro e w10 ⟨rm, rfl, rm0, rm1, hR10, hG10⟩
      have hb10 := Nat.lt_of_lt_of_le hb9 hG10.size
      have s10 := hG10.size
      have G10 := g_trans G9 hG10
      clear hR9 hG10 G9
      go_wp2_with fail
      refine (pick_any b _ 4 _ hR10 (by omega)).mono ?_
      rintro e w11 ⟨dl, rfl, hdl, hR11, hG11⟩
      have s11 := hG11.size
      have G11 := g_trans G10 hG11
      have hO11 : OwnNd w11 w.heap.size (.slice vb xs.length vc) xs := World.ownsRow.kept HO.out G11 (.inr (by intro h; have := (World.ownsRow.lt HO.out b h).1; omega))
      have HR11 := Lib.hid hR11
      have HG11 := Lib.hid (g_trans HG.out G11)
      have HO11 := Lib.hid hO11
      have hs11 : w.heap.size < w11.heap.size := by omega
      clear hR10 hG11 G10 G11 hR11 hO11 HO HG hp hdl
      go_wp2_with (first | (at_builtin; refine wpList_append_own _ rfl (.tmp 22) (.tmp 39) _ rfl w.heap.size 60 i0 _ 5 40 Try.underlying53 hi hz0 hz1 hz2 rfl (by decide) _ _ _ rfl (World.ownsRow.alloc HO11.out _) ⟨w11.heap.size, 0, none⟩ 1 1 [.int .i64 (p : Int), .int .i64 wt, .int .i64 ls, .int .i64 rm, .int .i64 (dl : Int)] rfl rfl (new_cells w11 _ _) (valsNd_one [((p : Int), wt, ls, rm, (dl : Int))]) (by unfold maxLen; omega) (by omega) (by simp; omega) ?_; intro v' w12 hown' hgrow6 hnil6))
      have hB12 : Below w.heap.size w11 w12 := ((Below.refl _ w11).alloc (Nat.le_of_lt hs11) _).grown hgrow6 (by simp; omega) (fun q hq => (World.ownsRow.lt HO11.out q hq).1)
      clear hgrow6 hnil6
      obtain ⟨R12, G12⟩ := rd_end (P := P + 4 + 5 * ((k + 1 : Nat) : Int)) hb (rd_up (P' := P + 4 + 5 * ((k + 1 : Nat) : Int)) HR11.out (by omega)) rfl HG11.out hB12
      have hO12 : OwnNd w12 w.heap.size v' (xs ++ [((p : Int), wt, ls, rm, (dl : Int))]) := by
        unfold OwnNd
        rw [List.length_append, valsNd_append]; exact hown'
      have HF : Hid (OwnNd w12 w.heap.size v' (xs ++ [((p : Int), wt, ls, rm, (dl : Int))]) ∧ Rd w12 b (P + 4 + 5 * ((k + 1 : Nat) : Int)) ∧ w.grownBy w12 (some b) ∧ w.heap.size < w12.heap.size) := ⟨hO12, R12, G12, by have := hB12.size; omega⟩
      clear hown' hB12 R12 G12 hO12
      go_roundw
      case rel => exact ⟨k + 1, xs ++ [((p : Int), wt, ls, rm, (dl : Int))], by omega, by go_num, HF.out.1, by rw [List.length_append, HX.out]; rfl, HF.out.2.1, HF.out.2.2.1, HF.out.2.2.2⟩
      case measure => simp [intOf]; omega
    · have e : (k : Int) = m := by omega
      have HF : Hid (OwnNd wr w.heap.size u3 xs ∧ Rd wr b (P + 60) ∧ w.grownBy wr (some b)) := ⟨hown, rd_up hR (by omega), hG⟩
      have HX := Lib.hid hxl
      clear hown hR hG hxl
      go_wp2_with fail
      go_ret
      have hx := HX.out
      exact ⟨_, xs, rfl, by omega, by omega, HF.out.1, HF.out.2.1, HF.out.2.2⟩
/-- what anyNodes leaves -/
def AnyNd (w : World) (b : Nat) (P : Int) (e : Ending) (w' : World) : Prop := ∃ (a : Option Addr) (cap : Nat) (xs : List Nd), e = .returned (.slice a xs.length cap) ∧ 1 ≤ xs.length ∧ xs.length ≤ 10 ∧ xs.length ≤ cap ∧ IsNd w' a xs ∧ (∀ ad, a = some ad → w.heap.size ≤ ad.block) ∧ Rd w' b (P + 63) ∧ w.grownBy w' (some b)
theorem own_isnd {w : World} {base g cp n : Nat} {xs : List Nd} (h : w.ownsRow base 60 5 (.slice (some ⟨g, 0, none⟩) n cp) n (valsNd xs)) (hl : xs.length = n) : IsNd w (some ⟨g, 0, none⟩) xs ∧ n ≤ cp := by
  subst hl
  obtain ⟨b', c', e, hI⟩ := own_nd (show OwnNd w base _ xs from h)
  injection e with e1 e2 e3
  subst e1
  refine ⟨hI, ?_⟩
  rcases h.2 with ⟨hv, hn⟩ | ⟨g', cap', cur, hv, hg, hb, hc, _⟩
  · rw [hn]; exact Nat.zero_le _
  · injection hv with e1 e2 e3; omega
set_option maxRecDepth 100000 in
set_option maxHeartbeats 8000000 in
theorem anyNd (b : Nat) (P : Int) (w : World) (h : Rd w b P) (hP : P ≤ 70000) (hb : b < w.heap.size) :
    Calls Try.prog 93 #[.pointer (some ⟨b, 0, none⟩)] w (AnyNd w b P) := by
  go_enter Try.func93, Try.ntmps93
  go_wp2_with fail
  refine (someNd b P _ h (by omega) hb).mono ?_
  rintro e w1 ⟨v, xs, rfl, k1, k6, hO, hR1, hG1⟩
  have hb1 := Nat.lt_of_lt_of_le hb hG1.size
  obtain ⟨g, cp, rfl, lg, ltg⟩ := World.ownsRow.form hO (by omega)
  clear h
  go_wp2_with fail
  refine (pick_any b _ (xs.length : Int) _ hR1 (by omega)).mono ?_
  rintro e w2 ⟨k, rfl, hk', hR2, hG2⟩
  have hb2 := Nat.lt_of_lt_of_le hb1 hG2.size
  have hk : k < xs.length := by omega
  clear hk' hR1
  go_wp2_with fail
  refine (pick_any b _ 20 _ hR2 (by omega)).mono ?_
  rintro e w3 ⟨p, rfl, hp, hR3, hG3⟩
  have hb3 := Nat.lt_of_lt_of_le hb2 hG3.size
  have G23 := g_trans hG2 hG3
  have HO3 : Hid (OwnNd w3 w.heap.size (.slice (some ⟨g, 0, none⟩) xs.length cp) xs) := World.ownsRow.kept hO G23 (.inr (by simp [Value.ownBlock]; omega))
  have G3 := Lib.hid (g_trans hG1 G23)
  have i0 : (0 : Int) ≤ (k : Int) := by omega
  have i1 : (k : Int) < (xs.length : Int) := by omega
  clear hO hG1 hG2 hG3 G23 hR2
  by_cases p0 : p = 0
  · subst p0
    clear hp
    go_wp2_with fail
    refine (one_lit b 3 _ (-1) 12 [-1, (k : Int), 12] _ w3 hR3 (by omega) hb3 rfl (by omega) (by omega) (by simp; omega)).mono ?_
    rintro e w4 ⟨z, rfl, z0, z1, hR4, hG4⟩
    have hO4 : OwnNd w4 w.heap.size (.slice (some ⟨g, 0, none⟩) xs.length cp) xs := World.ownsRow.kept HO3.out hG4 (.inr (by simp [Value.ownBlock]; omega))
    have G4 := g_trans G3.out hG4
    have hc0 := World.ownsRow.cellAt hO4 (k * 5) (by omega)
    rw [(valsNd_get (xs := xs) (k := k) hk).1] at hc0
    have hf0 := World.ownsRow.frozenAt hO4 (k * 5)
    have hS := (World.ownsRow.stored hO4 (k * 5) (.int .i64 z)).1
    rw [valsNd_set0 xs k z hk] at hS
    have hB : Below w.heap.size w4 (w4.setCell ⟨g, k * 5, none⟩ (.int .i64 z)) := (Below.refl _ _).setCell (p := ⟨g, k * 5, none⟩) lg _
    have hfin := rd_end (P := P + 63) hb (rd_up (P' := P + 63) hR4 (by omega)) rfl G4 hB
    have HS := Lib.hid (And.intro hS hfin)
    generalize (xs.getD k nd0).1 = x0 at hc0
    clear hS hfin hB hO4 hG4 G4 hR4 hR3
    go_wp2_with fail
    go_ret
    have hl2 : (xs.set k (z, (xs.getD k nd0).2)).length = xs.length := List.length_set
    obtain ⟨I, hcp⟩ := own_isnd HS.out.1 hl2
    exact ⟨some ⟨g, 0, none⟩, cp, _, by rw [hl2]; rfl, by omega, by omega, by omega, I, (fun ad e => by injection e with e; subst e; exact lg), HS.out.2.1, HS.out.2.2⟩
  · have e0 : ((p : Int) == 0) = false := by simp; omega
    have e0' : (p == 0) = false := by simpa using p0
    by_cases p1 : p = 1
    · subst p1
      clear hp
      go_wp2_with fail
      refine (one_lit b 2 _ (-1) 501 [-1, 501] _ w3 hR3 (by omega) hb3 rfl (by omega) (by omega) (by simp)).mono ?_
      rintro e w4 ⟨z, rfl, z0, z1, hR4, hG4⟩
      have hO4 : OwnNd w4 w.heap.size (.slice (some ⟨g, 0, none⟩) xs.length cp) xs := World.ownsRow.kept HO3.out hG4 (.inr (by simp [Value.ownBlock]; omega))
      have G4 := g_trans G3.out hG4
      have hc0 := World.ownsRow.cellAt hO4 (k * 5 + 3) (by omega)
      rw [(valsNd_get (xs := xs) (k := k) hk).2.2.2.1] at hc0
      have hf0 := World.ownsRow.frozenAt hO4 (k * 5 + 3)
      have hS := (World.ownsRow.stored hO4 (k * 5 + 3) (.int .i64 z)).1
      rw [valsNd_set3 xs k z hk] at hS
      have hB : Below w.heap.size w4 (w4.setCell ⟨g, k * 5 + 3, none⟩ (.int .i64 z)) := (Below.refl _ _).setCell (p := ⟨g, k * 5 + 3, none⟩) lg _
      have hfin := rd_end (P := P + 63) hb (rd_up (P' := P + 63) hR4 (by omega)) rfl G4 hB
      have HS := Lib.hid (And.intro hS hfin)
      generalize (xs.getD k nd0).2.2.2.1 = x0 at hc0
      clear hS hfin hB hO4 hG4 G4 hR4 hR3
      go_wp2_with fail
      go_ret
      have hl2 : (xs.set k ((xs.getD k nd0).1, (xs.getD k nd0).2.1, (xs.getD k nd0).2.2.1, z, (xs.getD k nd0).2.2.2.2)).length = xs.length := List.length_set
      obtain ⟨I, hcp⟩ := own_isnd HS.out.1 hl2
      exact ⟨some ⟨g, 0, none⟩, cp, _, by rw [hl2]; rfl, by omega, by omega, by omega, I, (fun ad e => by injection e with e; subst e; exact lg), HS.out.2.1, HS.out.2.2⟩
    · have e1 : ((p : Int) == 1) = false := by simp; omega
      have e1' : (p == 1) = false := by simpa using p1
      by_cases p2 : p = 2
      · subst p2
        clear hp
        go_wp2_with fail
        refine (one_lit b 2 _ (-1) 1001 [-1, 1001] _ w3 hR3 (by omega) hb3 rfl (by omega) (by omega) (by simp)).mono ?_
        rintro e w4 ⟨z, rfl, z0, z1, hR4, hG4⟩
        have hO4 : OwnNd w4 w.heap.size (.slice (some ⟨g, 0, none⟩) xs.length cp) xs := World.ownsRow.kept HO3.out hG4 (.inr (by simp [Value.ownBlock]; omega))
        have G4 := g_trans G3.out hG4
        have hc0 := World.ownsRow.cellAt hO4 (k * 5 + 1) (by omega)
        rw [(valsNd_get (xs := xs) (k := k) hk).2.1] at hc0
        have hf0 := World.ownsRow.frozenAt hO4 (k * 5 + 1)
        have hS := (World.ownsRow.stored hO4 (k * 5 + 1) (.int .i64 z)).1
        rw [valsNd_set1 xs k z hk] at hS
        have hB : Below w.heap.size w4 (w4.setCell ⟨g, k * 5 + 1, none⟩ (.int .i64 z)) := (Below.refl _ _).setCell (p := ⟨g, k * 5 + 1, none⟩) lg _
        have hfin := rd_end (P := P + 63) hb (rd_up (P' := P + 63) hR4 (by omega)) rfl G4 hB
        have HS := Lib.hid (And.intro hS hfin)
        generalize (xs.getD k nd0).2.1 = x0 at hc0
        clear hS hfin hB hO4 hG4 G4 hR4 hR3
        go_wp2_with fail
        go_ret
        have hl2 : (xs.set k ((xs.getD k nd0).1, z, (xs.getD k nd0).2.2)).length = xs.length := List.length_set
        obtain ⟨I, hcp⟩ := own_isnd HS.out.1 hl2
        exact ⟨some ⟨g, 0, none⟩, cp, _, by rw [hl2]; rfl, by omega, by omega, by omega, I, (fun ad e => by injection e with e; subst e; exact lg), HS.out.2.1, HS.out.2.2⟩
      · have e2 : ((p : Int) == 2) = false := by simp; omega
        have e2' : (p == 2) = false := by simpa using p2
        have HF := Lib.hid (rd_up (P' := P + 63) hR3 (by omega))
        clear hp hR3 p0 p1 p2
        go_wp2_with fail
        go_ret
        obtain ⟨I, hcp⟩ := own_isnd HO3.out rfl
        exact ⟨some ⟨g, 0, none⟩, cp, xs, rfl, by omega, by omega, by omega, I, (fun ad e => by injection e with e; subst e; exact lg), HF.out, G3.out⟩
theorem nd_grown {w w' : World} {a : Option Addr} {xs : List Nd} {b base : Nat} (h : IsNd w a xs) (hb : ∀ ad, a = some ad → base ≤ ad.block) (hlt : b < base) (hG : w.grownBy w' (some b)) : IsNd w' a xs := by
  rcases h with h | ⟨g, o, ha, hc⟩
  · exact .inl h
  · refine .inr ⟨g, o, ha, fun i hi => ?_⟩
    have hg := hb _ ha
    have hne : g ≠ b := by
      have : base ≤ g := hg
      omega
    obtain ⟨c0, c1, c2, c3, c4⟩ := hc i hi
    have k : ∀ {o : Nat} {u : Value}, w.cell? ⟨g, o, none⟩ = some u → w'.cell? ⟨g, o, none⟩ = some u := fun c => (g_cell hG (World.block_lt_of_cell? w _ c) hne).trans c
    exact ⟨k c0, k c1, k c2, k c3, k c4⟩
theorem ints_grown {w w' : World} {a : Option Addr} {zs : List Int} {b base : Nat} (h : IsInts w a zs) (hb : ∀ ad, a = some ad → base ≤ ad.block) (hlt : b < base) (hG : w.grownBy w' (some b)) : IsInts w' a zs := by
  rcases h with h | ⟨g, o, ha, hc⟩
  · exact .inl h
  · refine .inr ⟨g, o, ha, fun i hi => ?_⟩
    have hg := hb _ ha
    have hne : g ≠ b := by
      have : base ≤ g := hg
      omega
    exact (g_cell hG (World.block_lt_of_cell? w _ (hc i hi)) hne).trans (hc i hi)
end Go.Proofs.Ytfcgjiciobfncaa
namespace Go.Proofs.Ytfcgjiciobfncaa
open Go.RowKit
set_option linter.unusedSimpArgs false
set_option linter.unusedVariables false
theorem g_madeN {w w1 w2 : World} (h : Below w.heap.size w w1) (hG : w1.grownBy w2 (some w.heap.size)) : Below w.heap.size w w2 := below_grown h hG (Nat.le_refl _)
def AtNd (w : World) (b : Nat) (P : Int) (e : Ending) (w' : World) : Prop := ∃ (a : Option Addr) (cap : Nat) (xs : List Nd) (i : Int), e = .returned (.tuple #[.slice a xs.length cap, .int .i64 i]) ∧ 1 ≤ xs.length ∧ xs.length ≤ 10 ∧ xs.length ≤ cap ∧ IsNd w' a xs ∧ -1 ≤ i ∧ i ≤ 12 ∧ (∀ ad, a = some ad → w.heap.size ≤ ad.block) ∧ Rd w' b (P + 65) ∧ w.grownBy w' (some b)
set_option maxHeartbeats 4000000 in
theorem atNd (b : Nat) (P : Int) (w : World) (h : Rd w b P) (hP : P ≤ 70000) (hb : b < w.heap.size) :
    Calls Try.prog 80 #[.pointer (some ⟨b, 0, none⟩)] w (AtNd w b P) := by
  go_enter Try.func80, Try.ntmps80
  go_wp2_with fail
  refine (anyNd b P _ h hP hb).mono ?_
  rintro e w1 ⟨a, cp, xs, rfl, k1, k10, hcp, hi, hblk, hR1, hG1⟩
  have hb1 := Nat.lt_of_lt_of_le hb hG1.size
  clear h
  go_wp2_with fail
  refine (pick_any b _ 8 _ hR1 (by omega)).mono ?_
  rintro e w2 ⟨p, rfl, hp, hR2, hG2⟩
  have hb2 := Nat.lt_of_lt_of_le hb1 hG2.size
  have G2 := g_trans hG1 hG2
  replace hi := nd_grown hi hblk hb hG2
  clear hp hG1 hG2 hR1
  by_cases p0 : p = 0
  · subst p0
    go_wp2_with fail
    refine (one_lit b 2 _ (-1) 12 [-1, 12] _ w2 hR2 (by omega) hb2 rfl (by omega) (by omega) (by simp)).mono ?_
    rintro e w3 ⟨i, rfl, i0, i1, hR3, hG3⟩
    have HF : Hid (IsNd w3 a xs ∧ Rd w3 b (P + 65) ∧ w.grownBy w3 (some b)) := ⟨nd_grown hi hblk hb hG3, rd_up hR3 (by omega), g_trans G2 hG3⟩
    clear hi hR3 hG3 G2 hR2
    go_wp2_with fail
    go_returns
    exact ⟨a, cp, xs, i, rfl, k1, k10, hcp, HF.out.1, i0, i1, hblk, HF.out.2.1, HF.out.2.2⟩
  · have e0 : ((p : Int) == 0) = false := by simp; omega
    have e1 : (p == 0) = false := by simpa using p0
    go_wp2_with fail
    refine (pick_any b _ (xs.length : Int) _ hR2 (by omega)).mono ?_
    rintro e w3 ⟨i, rfl, hi3, hR3, hG3⟩
    have HF : Hid (IsNd w3 a xs ∧ Rd w3 b (P + 65) ∧ w.grownBy w3 (some b)) := ⟨nd_grown hi hblk hb hG3, rd_up hR3 (by omega), g_trans G2 hG3⟩
    have i1 : (i : Int) ≤ 12 := by omega
    clear hi hR3 hG3 G2 hR2 hi3
    go_wp2_with fail
    go_returns
    exact ⟨a, cp, xs, (i : Int), rfl, k1, k10, hcp, HF.out.1, by omega, i1, hblk, HF.out.2.1, HF.out.2.2⟩
def DrawnValidNodes (w : World) (e : Ending) (w' : World) : Prop := ∃ (a : Option Addr) (cap : Nat) (xs : List Nd), e = .returned (.slice a xs.length cap) ∧ 1 ≤ xs.length ∧ xs.length ≤ 10 ∧ xs.length ≤ cap ∧ IsNd w' a xs ∧ Below w.heap.size w w'
def DrawnLeavesOf (w : World) (e : Ending) (w' : World) : Prop := ∃ (a : Option Addr) (cap : Nat) (xs : List Nd), e = .returned (.slice a xs.length cap) ∧ 1 ≤ xs.length ∧ xs.length ≤ 10 ∧ xs.length ≤ cap ∧ IsNd w' a xs ∧ Below w.heap.size w w'
def DrawnKidsOf (w : World) (e : Ending) (w' : World) : Prop := ∃ (a : Option Addr) (cap : Nat) (xs : List Nd) (i : Int), e = .returned (.tuple #[.slice a xs.length cap, .int .i64 i]) ∧ 1 ≤ xs.length ∧ xs.length ≤ 10 ∧ xs.length ≤ cap ∧ IsNd w' a xs ∧ -1 ≤ i ∧ i ≤ 12 ∧ Below w.heap.size w w'
def DrawnPathTo (w : World) (e : Ending) (w' : World) : Prop := ∃ (a : Option Addr) (cap : Nat) (xs : List Nd) (i : Int), e = .returned (.tuple #[.slice a xs.length cap, .int .i64 i]) ∧ 1 ≤ xs.length ∧ xs.length ≤ 10 ∧ xs.length ≤ cap ∧ IsNd w' a xs ∧ -1 ≤ i ∧ i ≤ 12 ∧ Below w.heap.size w w'
def DrawnDelayTo (w : World) (e : Ending) (w' : World) : Prop := ∃ (a : Option Addr) (cap : Nat) (xs : List Nd) (i : Int), e = .returned (.tuple #[.slice a xs.length cap, .int .i64 i]) ∧ 1 ≤ xs.length ∧ xs.length ≤ 10 ∧ xs.length ≤ cap ∧ IsNd w' a xs ∧ -1 ≤ i ∧ i ≤ 12 ∧ Below w.heap.size w w'
def DrawnFlowsOf (w : World) (e : Ending) (w' : World) : Prop := ∃ (a : Option Addr) (cap : Nat) (xs : List Nd) (i : Int), e = .returned (.tuple #[.slice a xs.length cap, .int .i64 i]) ∧ 1 ≤ xs.length ∧ xs.length ≤ 10 ∧ xs.length ≤ cap ∧ IsNd w' a xs ∧ -1 ≤ i ∧ i ≤ 501 ∧ Below w.heap.size w w'
def DrawnNeedFor (w : World) (e : Ending) (w' : World) : Prop := ∃ (a : Option Addr) (cap : Nat) (xs : List Nd) (i j : Int), e = .returned (.tuple #[.slice a xs.length cap, .int .i64 i, .int .i64 j]) ∧ 1 ≤ xs.length ∧ xs.length ≤ 10 ∧ xs.length ≤ cap ∧ IsNd w' a xs ∧ -1 ≤ i ∧ i ≤ 12 ∧ 0 ≤ j ∧ j ≤ 501 ∧ Below w.heap.size w w'
def DrawnSetGate (w : World) (e : Ending) (w' : World) : Prop := ∃ (a : Option Addr) (cap : Nat) (xs : List Nd) (i j : Int), e = .returned (.tuple #[.slice a xs.length cap, .int .i64 i, .int .i64 j]) ∧ 1 ≤ xs.length ∧ xs.length ≤ 10 ∧ xs.length ≤ cap ∧ IsNd w' a xs ∧ -1 ≤ i ∧ i ≤ 12 ∧ -1 ≤ j ∧ j ≤ 1001 ∧ Below w.heap.size w w'
end Go.Proofs.Ytfcgjiciobfncaa
namespace Go.Proofs.Ytfcgjiciobfncaa
open Go.RowKit

/-- 1, 2, 3 .. -/
def marks (n : Nat) : List Int := (List.range n).map fun (i : Nat) => (1 : Int) + (i : Int)
theorem marks_len (n : Nat) : (marks n).length = n := by unfold marks; simp
theorem marks_get (n : Nat) {k : Nat} (h : k < n) : (marks n).getD k 0 = 1 + (k : Int) := by
  unfold marks
  rw [List.getD_eq_getElem?_getD, List.getElem?_map, List.getElem?_range h]; rfl
/-- what markIntS leaves -/
def Marked (w : World) (g n : Nat) (e : Ending) (w' : World) : Prop := e = .returned (.int .i64 (1 + (n : Int))) ∧ Row w' g (marks n) ∧ w.grownBy w' (some g)

end Go.Proofs.Ytfcgjiciobfncaa
namespace Go.Proofs.Ytfcgjiciobfncaa
open Go.RowKit
set_option linter.unusedSimpArgs false
set_option linter.unusedVariables false
end Go.Proofs.Ytfcgjiciobfncaa
namespace Go.Proofs.Ytfcgjiciobfncaa

theorem getD_set (l : List Int) (b : Nat) (v : Int) (hb : b < l.length) (i : Nat) : (l.set b v).getD i 0 = if i = b then v else l.getD i 0 := by
  rw [List.getD_eq_getElem?_getD, List.getElem?_set, List.getD_eq_getElem?_getD]
  by_cases h : i = b
  · subst h; simp [hb]
  · rw [if_neg (fun e => h e.symm), if_neg h]
theorem sum_set (l : List Int) : ∀ (b : Nat) (v : Int), b < l.length → (l.set b v).sum = l.sum - l.getD b 0 + v := by
  induction l with
  | nil => intro b v h; simp at h
  | cons x l ih =>
    intro b v h
    cases b with
    | zero => simp; omega
    | succ b =>
      have := ih b v (by simpa using h)
      simp at this ⊢
      omega

/-- the first index that is beaten by none after it -/
def pickB (R : Nat → Nat → Bool) : Nat → Nat
  | 0 => 0
  | k + 1 => if R k (pickB R k) then k else pickB R k
theorem pickB_succ (R : Nat → Nat → Bool) (k : Nat) : pickB R (k + 1) = if R k (pickB R k) then k else pickB R k := rfl
theorem pickB_lt (R : Nat → Nat → Bool) (k : Nat) : pickB R (k + 1) < k + 1 := by
  induction k with
  | zero => rw [pickB_succ]; split <;> simp [pickB]
  | succ k ih => rw [pickB_succ]; split <;> omega
theorem pickB_lt' {R : Nat → Nat → Bool} {k : Nat} (h : 0 < k) : pickB R k < k := by
  obtain ⟨j, rfl⟩ : ∃ j, k = j + 1 := ⟨k - 1, by omega⟩
  exact pickB_lt R j
theorem pickB_max (R : Nat → Nat → Bool) (ge : Nat → Nat → Prop) (refl : ∀ i, ge i i) (hn : ∀ i b, R i b = false → ge b i) (ht : ∀ i b c, R i b = true → ge b c → ge i c) : ∀ k i, i < k → ge (pickB R k) i := by
  intro k
  induction k with
  | zero => intro i h; omega
  | succ k ih =>
    intro i h
    rw [pickB_succ]
    cases hR : R k (pickB R k) with
    | true =>
      simp only [if_true]
      by_cases e : i = k
      · subst e; exact refl _
      · exact ht _ _ _ hR (ih i (by omega))
    | false =>
      simp only [Bool.false_eq_true, if_false]
      by_cases e : i = k
      · subst e; exact hn _ _ hR
      · exact ih i (by omega)
/-- the same, begun with none -/
def pickS (ok : Nat → Bool) (R : Nat → Nat → Bool) : Nat → Int
  | 0 => -1
  | k + 1 => if ok k && (decide (pickS ok R k < 0) || R k (pickS ok R k).toNat) then k else pickS ok R k
theorem pickS_is (ok : Nat → Bool) (R : Nat → Nat → Bool) (n : Nat) (h1 : ∀ i b, i < n → b < n → ok i = true → ok b = false → R i b = true) (h2 : ∀ i b, i < n → b < n → ok i = false → R i b = false) :
    ∀ k, k ≤ n → (pickS ok R k = -1 ∧ pickB R k = 0 ∧ ∀ j, j < k → ok j = false) ∨ (pickS ok R k = (pickB R k : Nat) ∧ ok (pickB R k) = true ∧ pickB R k < k) := by
  intro k
  induction k with
  | zero => intro _; exact .inl ⟨rfl, rfl, fun j h => by omega⟩
  | succ k ih =>
    intro hk
    rw [pickB_succ]
    show ((if ok k && (decide (pickS ok R k < 0) || R k (pickS ok R k).toNat) then (k : Int) else pickS ok R k) = -1 ∧ _ ∧ _) ∨ ((if ok k && (decide (pickS ok R k < 0) || R k (pickS ok R k).toNat) then (k : Int) else pickS ok R k) = _ ∧ _ ∧ _)
    rcases ih (by omega) with ⟨a, b, c⟩ | ⟨a, b, c⟩
    · rw [a, b]
      cases ho : ok k with
      | true =>
        right
        by_cases h0 : k = 0
        · subst h0; simp [ho]
        · rw [h1 k 0 (by omega) (by omega) ho (c 0 (by omega))]; simp [ho]
      | false =>
        left
        rw [h2 k 0 (by omega) (by omega) ho]
        refine ⟨by simp, by simp, fun j hj => ?_⟩
        by_cases e : j = k
        · subst e; exact ho
        · exact c j (by omega)
    · right
      rw [a]
      have e : decide (((pickB R k : Nat) : Int) < 0) = false := by simp
      rw [e, Int.toNat_natCast]
      cases ho : ok k with
      | true =>
        cases hR : R k (pickB R k) with
        | true => simp [ho]
        | false => simp [b]; omega
      | false =>
        rw [h2 k _ (by omega) (by omega) ho]
        simp [b]; omega

/-- the remainders -/
def rsts (n : Int) (ws : List Int) : List Int := ws.map fun z => n * z % ws.sum
theorem rsts_len (n : Int) (ws : List Int) : (rsts n ws).length = ws.length := by unfold rsts; simp
theorem rsts_get (n : Int) (ws : List Int) {k : Nat} (h : k < ws.length) : (rsts n ws).getD k 0 = n * ws.getD k 0 % ws.sum := by
  unfold rsts
  rw [List.getD_eq_getElem?_getD, List.getD_eq_getElem?_getD, List.getElem?_map, List.getElem?_eq_getElem h]; rfl
theorem sum_parts (n S : Int) : ∀ ws : List Int, n * ws.sum = S * (ws.map fun z => n * z / S).sum + (ws.map fun z => n * z % S).sum := by
  intro ws
  induction ws with
  | nil => simp
  | cons x l ih =>
    simp only [List.map_cons, List.sum_cons, Int.mul_add]
    have := Int.mul_ediv_add_emod (n * x) S
    omega
theorem qr_sum (n : Int) (ws : List Int) : n * ws.sum = ws.sum * (qs n ws).sum + (rsts n ws).sum := sum_parts n ws.sum ws

def moreB (l : List Int) (i b : Nat) : Bool := decide (l.getD i 0 > l.getD b 0)
def stepR (s : List Int × List Int) : List Int × List Int :=
  (s.1.set (pickB (moreB s.2) s.2.length) (s.1.getD (pickB (moreB s.2) s.2.length) 0 + 1), s.2.set (pickB (moreB s.2) s.2.length) (-1))
def restTo (n : Int) (ws : List Int) : Nat → List Int × List Int
  | 0 => (qs n ws, rsts n ws)
  | j + 1 => stepR (restTo n ws j)
theorem restTo_len (n : Int) (ws : List Int) : ∀ j, (restTo n ws j).1.length = ws.length ∧ (restTo n ws j).2.length = ws.length := by
  intro j
  induction j with
  | zero => exact ⟨qs_len n ws, rsts_len n ws⟩
  | succ j ih => exact ⟨by show (List.set _ _ _).length = _; simp [ih.1], by show (List.set _ _ _).length = _; simp [ih.2]⟩
theorem moreB_max (l : List Int) {i : Nat} (h : i < l.length) : l.getD i 0 ≤ l.getD (pickB (moreB l) l.length) 0 := by
  refine pickB_max (moreB l) (fun b i => l.getD i 0 ≤ l.getD b 0) (fun i => Int.le_refl _) (fun i b h => ?_) (fun i b c h h' => ?_) l.length i h
  · unfold moreB at h; simp only [decide_eq_false_iff_not] at h; omega
  · unfold moreB at h; simp only [decide_eq_true_eq] at h; omega
/-- the units that are left -/
def leftOf (n : Int) (ws : List Int) : Nat := (n - (qs n ws).sum).toNat
def sr (n : Int) (ws : List Int) : List Int := (restTo n ws (leftOf n ws)).1
theorem sr_len (n : Int) (ws : List Int) : (sr n ws).length = ws.length := (restTo_len n ws _).1

def posS (l : List Int) : Int := (l.map fun z => if z < 0 then 0 else z).sum
theorem posS_pos {l : List Int} (h : 0 < posS l) : ∃ i, i < l.length ∧ 0 < l.getD i 0 := by
  unfold posS at h
  induction l with
  | nil => simp at h
  | cons x l ih =>
    by_cases hx : 0 < x
    · exact ⟨0, by simp, by simpa using hx⟩
    · simp only [List.map_cons, List.sum_cons] at h
      obtain ⟨i, hi, hg⟩ := ih (by split at h <;> omega)
      exact ⟨i + 1, by simpa using hi, by simpa using hg⟩
theorem posS_set {l : List Int} {b : Nat} (h : b < l.length) (h0 : 0 ≤ l.getD b 0) : posS (l.set b (-1)) = posS l - l.getD b 0 := by
  unfold posS
  rw [List.map_set, sum_set _ _ _ (by simpa using h)]
  have e : (l.map fun z => if z < 0 then 0 else z).getD b 0 = l.getD b 0 := by
    rw [List.getD_eq_getElem?_getD, List.getElem?_map, List.getElem?_eq_getElem h]
    rw [List.getD_eq_getElem?_getD, List.getElem?_eq_getElem h] at h0 ⊢
    simp at h0 ⊢; omega
  rw [e]; simp
theorem posS_all {l : List Int} (h : ∀ i, i < l.length → 0 ≤ l.getD i 0) : posS l = l.sum := by
  unfold posS
  induction l with
  | nil => rfl
  | cons x l ih =>
    have h0 := h 0 (by simp)
    have := ih (fun i hi => by simpa using h (i + 1) (by simpa using hi))
    simp only [List.getD_cons_zero] at h0
    simp only [List.map_cons, List.sum_cons, this, if_neg (by omega : ¬ x < 0)]

/-- what holds after j units -/
structure Rest (n : Int) (ws : List Int) (j : Nat) : Prop where
  each : ∀ i, i < ws.length → ((restTo n ws j).1.getD i 0 = (qs n ws).getD i 0 ∧ (restTo n ws j).2.getD i 0 = (rsts n ws).getD i 0) ∨ ((restTo n ws j).1.getD i 0 = (qs n ws).getD i 0 + 1 ∧ (restTo n ws j).2.getD i 0 = -1 ∧ 0 < (rsts n ws).getD i 0)
  order : ∀ i k, i < ws.length → k < ws.length → (restTo n ws j).2.getD i 0 = -1 → (restTo n ws j).2.getD k 0 ≠ -1 → (rsts n ws).getD k 0 ≤ (rsts n ws).getD i 0
  sum : (restTo n ws j).1.sum = (qs n ws).sum + j
  pos : ws.sum * ((leftOf n ws : Int) - j) ≤ posS (restTo n ws j).2
theorem rsts_bd {n : Int} {ws : List Int} (hcs : csB n ws = true) {i : Nat} (hi : i < ws.length) : 0 ≤ (rsts n ws).getD i 0 ∧ (rsts n ws).getD i 0 < ws.sum ∧ ws.sum ≤ 12000000 := by
  obtain ⟨s0, s1⟩ := ws_bd (cs_yes hcs).2
  rw [rsts_get n ws hi]
  exact ⟨Int.emod_nonneg _ (by omega), Int.emod_lt_of_pos _ (by omega), s1⟩
theorem list_nonneg {l : List Int} (h : ∀ i, i < l.length → 0 ≤ l.getD i 0) : 0 ≤ l.sum := by
  induction l with
  | nil => simp
  | cons x l ih =>
    have h0 := h 0 (by simp)
    have := ih (fun i hi => by simpa using h (i + 1) (by simpa using hi))
    simp only [List.getD_cons_zero] at h0
    rw [List.sum_cons]; omega
theorem q_sum {n : Int} {ws : List Int} (hcs : csB n ws = true) : 0 ≤ (qs n ws).sum ∧ (qs n ws).sum ≤ n := by
  obtain ⟨s0, s1⟩ := ws_bd (cs_yes hcs).2
  have hq : 0 ≤ (qs n ws).sum := list_nonneg (fun i hi => by
    rw [qs_len] at hi
    rw [qs_get n ws hi]
    exact Int.ediv_nonneg (q_bd hcs hi).2.2.1 (by omega))
  have hr : 0 ≤ (rsts n ws).sum := list_nonneg (fun i hi => by rw [rsts_len] at hi; exact (rsts_bd hcs hi).1)
  have e := qr_sum n ws
  refine ⟨hq, ?_⟩
  have : ws.sum * (qs n ws).sum ≤ ws.sum * n := by rw [Int.mul_comm ws.sum n]; omega
  exact Int.le_of_mul_le_mul_left this (by omega)
theorem left_is {n : Int} {ws : List Int} (hcs : csB n ws = true) : (leftOf n ws : Int) = n - (qs n ws).sum := by
  have := q_sum hcs
  unfold leftOf; omega
theorem q_le {n : Int} {ws : List Int} (hcs : csB n ws = true) {i : Nat} (hi : i < ws.length) : 0 ≤ (qs n ws).getD i 0 ∧ (qs n ws).getD i 0 ≤ 500000 := by
  obtain ⟨s0, s1⟩ := ws_bd (cs_yes hcs).2
  obtain ⟨a, b, c, d⟩ := q_bd hcs hi
  rw [qs_get n ws hi]
  exact ⟨Int.ediv_nonneg c (by omega), Int.le_trans (Int.ediv_le_self _ c) d⟩
theorem ws_ne {ws : List Int} (h : vwB ws = true) : 0 < ws.length := by
  have := (ws_bd h).1
  cases ws with
  | nil => simp at this
  | cons x l => simp
theorem rest_best {n : Int} {ws : List Int} (hcs : csB n ws = true) {j : Nat} (h : Rest n ws j) (hj : j < leftOf n ws) :
    pickB (moreB (restTo n ws j).2) ws.length < ws.length ∧ 0 < (restTo n ws j).2.getD (pickB (moreB (restTo n ws j).2) ws.length) 0 := by
  obtain ⟨s0, s1⟩ := ws_bd (cs_yes hcs).2
  have hl := (restTo_len n ws j).2
  have hp := h.pos
  have : 0 < posS (restTo n ws j).2 := by
    have : ws.sum * 1 ≤ ws.sum * ((leftOf n ws : Int) - j) := Int.mul_le_mul_of_nonneg_left (by omega) (by omega)
    omega
  obtain ⟨i, hi, hg⟩ := posS_pos this
  have hm := moreB_max _ hi
  rw [hl] at hm
  exact ⟨pickB_lt' (by omega), by omega⟩
theorem restTo_succ1 (n : Int) (ws : List Int) (j : Nat) : (restTo n ws (j + 1)).1 = (restTo n ws j).1.set (pickB (moreB (restTo n ws j).2) ws.length) ((restTo n ws j).1.getD (pickB (moreB (restTo n ws j).2) ws.length) 0 + 1) := by
  show (stepR (restTo n ws j)).1 = _
  unfold stepR
  rw [(restTo_len n ws j).2]
theorem restTo_succ2 (n : Int) (ws : List Int) (j : Nat) : (restTo n ws (j + 1)).2 = (restTo n ws j).2.set (pickB (moreB (restTo n ws j).2) ws.length) (-1) := by
  show (stepR (restTo n ws j)).2 = _
  unfold stepR
  rw [(restTo_len n ws j).2]
theorem rest_is {n : Int} {ws : List Int} (hcs : csB n ws = true) : ∀ j, j ≤ leftOf n ws → Rest n ws j := by
  obtain ⟨s0, s1⟩ := ws_bd (cs_yes hcs).2
  intro j
  induction j with
  | zero =>
    intro _
    refine ⟨fun i hi => .inl ⟨rfl, rfl⟩, fun i k hi hk h => ?_, by simp [restTo], ?_⟩
    · have : (rsts n ws).getD i 0 = -1 := h
      have := rsts_bd hcs hi
      omega
    · show _ ≤ posS (rsts n ws)
      rw [posS_all (fun i hi => by rw [rsts_len] at hi; exact (rsts_bd hcs hi).1), left_is hcs]
      have := qr_sum n ws
      rw [Int.mul_comm n] at this
      simp only [Int.mul_sub, Int.natCast_zero, Int.mul_zero]
      omega
  | succ j ih =>
    intro hj
    have H := ih (by omega)
    obtain ⟨hb, hpos⟩ := rest_best hcs H (by omega)
    obtain ⟨l1, l2⟩ := restTo_len n ws j
    have hmax := fun i (hi : i < ws.length) => moreB_max (restTo n ws j).2 (i := i) (by omega)
    rw [l2] at hmax
    have e1 := restTo_succ1 n ws j
    have e2 := restTo_succ2 n ws j
    generalize pickB (moreB (restTo n ws j).2) ws.length = b at hb hpos hmax e1 e2
    have g1 := fun i => getD_set (restTo n ws j).1 b ((restTo n ws j).1.getD b 0 + 1) (by omega) i
    have g2 := fun i => getD_set (restTo n ws j).2 b (-1) (by omega) i
    rw [← e1] at g1
    rw [← e2] at g2
    have hbe : (restTo n ws j).1.getD b 0 = (qs n ws).getD b 0 ∧ (restTo n ws j).2.getD b 0 = (rsts n ws).getD b 0 := by
      rcases H.each b hb with h | h
      · exact h
      · omega
    refine ⟨fun i hi => ?_, fun i k hi hk h1 h2 => ?_, ?_, ?_⟩
    · rw [g1 i, g2 i]
      by_cases e : i = b
      · subst e; rw [if_pos rfl, if_pos rfl]; right; refine ⟨by omega, rfl, by omega⟩
      · rw [if_neg e, if_neg e]; exact H.each i hi
    · rw [g2 i] at h1
      rw [g2 k] at h2
      have ek : k ≠ b := fun e => h2 (by rw [if_pos e])
      rw [if_neg ek] at h2
      have hk' : (restTo n ws j).2.getD k 0 = (rsts n ws).getD k 0 := by
        rcases H.each k hk with h | h
        · exact h.2
        · exact absurd h.2.1 h2
      by_cases e : i = b
      · subst e; have := hmax k hk; omega
      · rw [if_neg e] at h1; exact H.order i k hi hk h1 h2
    · rw [e1, sum_set _ _ _ (by omega), H.sum]; simp; omega
    · rw [e2, posS_set (by omega) (by omega)]
      have hp := H.pos
      have hr := (rsts_bd hcs hb).2.1
      have e : ws.sum * ((leftOf n ws : Int) - (j + 1 : Nat)) = ws.sum * ((leftOf n ws : Int) - j) - ws.sum := by
        rw [show ((leftOf n ws : Int) - (j + 1 : Nat)) = ((leftOf n ws : Int) - j) - 1 by omega, Int.mul_sub]; omega
      rw [e]; omega

/-- averages -/
def avgB (step : Int) (ws gs : List Int) (i b : Nat) : Bool := decide (ws.getD i 0 * (step * gs.getD b 0 + 1) > ws.getD b 0 * (step * gs.getD i 0 + 1))
theorem avgB_true {step : Int} {ws gs : List Int} {i b : Nat} (h : avgB step ws gs i b = true) : ws.getD b 0 * (step * gs.getD i 0 + 1) < ws.getD i 0 * (step * gs.getD b 0 + 1) := by
  unfold avgB at h; simpa using h
theorem avgB_false {step : Int} {ws gs : List Int} {i b : Nat} (h : avgB step ws gs i b = false) : ws.getD i 0 * (step * gs.getD b 0 + 1) ≤ ws.getD b 0 * (step * gs.getD i 0 + 1) := by
  unfold avgB at h; simpa using h
def avgTo (step : Int) (ws : List Int) : Nat → List Int
  | 0 => List.replicate ws.length 0
  | j + 1 => (avgTo step ws j).set (pickB (avgB step ws (avgTo step ws j)) ws.length) ((avgTo step ws j).getD (pickB (avgB step ws (avgTo step ws j)) ws.length) 0 + 1)
theorem avgTo_succ (step : Int) (ws : List Int) (j : Nat) : avgTo step ws (j + 1) = (avgTo step ws j).set (pickB (avgB step ws (avgTo step ws j)) ws.length) ((avgTo step ws j).getD (pickB (avgB step ws (avgTo step ws j)) ws.length) 0 + 1) := rfl
theorem avgTo_len (step : Int) (ws : List Int) : ∀ j, (avgTo step ws j).length = ws.length := by
  intro j
  induction j with
  | zero => simp [avgTo]
  | succ j ih => rw [avgTo_succ]; simp [ih]
def sa (step n : Int) (ws : List Int) : List Int := avgTo step ws n.toNat
theorem sa_len (step n : Int) (ws : List Int) : (sa step n ws).length = ws.length := avgTo_len step ws _
/-- what holds after j units -/
structure Avg (step : Int) (ws : List Int) (j : Nat) : Prop where
  bd : ∀ i, i < ws.length → 0 ≤ (avgTo step ws j).getD i 0 ∧ (avgTo step ws j).getD i 0 ≤ j
  zero : ∀ i, i < ws.length → ws.getD i 0 = 0 → (avgTo step ws j).getD i 0 = 0
  sum : (avgTo step ws j).sum = j
theorem all_get {ws : List Int} (h : vwB ws = true) {i : Nat} (hi : i < ws.length) : 0 ≤ ws.getD i 0 ∧ ws.getD i 0 ≤ 1000 := (allB_iff ws 1000).1 (vw_is h).1 _ (getD_mem hi)
theorem pos_some {ws : List Int} (h : vwB ws = true) : ∃ i, i < ws.length ∧ 0 < ws.getD i 0 := by
  have e := posS_all (fun i hi => (all_get h (i := i) hi).1)
  exact posS_pos (by rw [e]; exact (ws_bd h).1)
theorem fac_bd {step g j : Int} (h : 1 ≤ step ∧ step ≤ 2) (hg : 0 ≤ g ∧ g ≤ j) (hj : j ≤ 1000) : 0 < step * g + 1 ∧ step * g + 1 ≤ 2001 := by
  have a := Int.mul_nonneg (a := step) (by omega) hg.1
  have b : step * g ≤ 2 * 1000 := Int.mul_le_mul h.2 (by omega) hg.1 (by omega)
  omega
theorem avg_trans {x y z a b c : Int} (hy : 0 < b) (ha : 0 < a) (hc : 0 < c)(h1 : x * b ≥ y * a) (h2 : y * c ≥ z * b) : x * c ≥ z * a := by
  have k1 : y * a * c ≤ x * b * c := Int.mul_le_mul_of_nonneg_right h1 (by omega)
  have k2 : z * b * a ≤ y * c * a := Int.mul_le_mul_of_nonneg_right h2 (by omega)
  have k3 : z * a * b ≤ x * c * b := by
    rw [Int.mul_right_comm z a b, Int.mul_right_comm x c b]
    rw [Int.mul_right_comm y c a] at k2
    omega
  exact Int.le_of_mul_le_mul_right k3 hy
theorem avg_max {step : Int} {ws : List Int} {j : Nat} (hv : vwB ws = true) (hs : 1 ≤ step ∧ step ≤ 2) (hj : j ≤ 1000) (H : Avg step ws j) {i : Nat} (hi : i < ws.length) :
    ws.getD i 0 * (step * (avgTo step ws j).getD (pickB (avgB step ws (avgTo step ws j)) ws.length) 0 + 1) ≤ ws.getD (pickB (avgB step ws (avgTo step ws j)) ws.length) 0 * (step * (avgTo step ws j).getD i 0 + 1) := by
  have hb := fun i (hi : i < ws.length) => fac_bd hs (H.bd i hi) (by omega)
  have hall := fun i (hi : i < ws.length) => all_get hv hi
  have key : ∀ k, k ≤ ws.length → ∀ i, i < k → ws.getD i 0 * (step * (avgTo step ws j).getD (pickB (avgB step ws (avgTo step ws j)) k) 0 + 1) ≤ ws.getD (pickB (avgB step ws (avgTo step ws j)) k) 0 * (step * (avgTo step ws j).getD i 0 + 1) := by
    intro k
    induction k with
    | zero => intro _ i h; omega
    | succ k ih =>
      intro hk i hik
      rw [pickB_succ]
      cases hR : avgB step ws (avgTo step ws j) k (pickB (avgB step ws (avgTo step ws j)) k) with
      | true =>
        simp only [if_true]
        have hR := avgB_true hR
        by_cases e : i = k
        · subst e; exact Int.le_refl _
        · have hp : pickB (avgB step ws (avgTo step ws j)) k < k := pickB_lt' (by omega)
          have := ih (by omega) i (by omega)
          exact avg_trans (hb _ (by omega)).1 (hb _ (by omega)).1 (hb _ (by omega)).1 (Int.le_of_lt hR) this
      | false =>
        simp only [Bool.false_eq_true, if_false]
        have hR := avgB_false hR
        by_cases e : i = k
        · subst e; exact hR
        · exact ih (by omega) i (by omega)
  exact key ws.length (Nat.le_refl _) i hi
theorem avg_pos {step : Int} {ws : List Int} {j : Nat} (hv : vwB ws = true) (hs : 1 ≤ step ∧ step ≤ 2) (hj : j ≤ 1000) (H : Avg step ws j) :
    pickB (avgB step ws (avgTo step ws j)) ws.length < ws.length ∧ 0 < ws.getD (pickB (avgB step ws (avgTo step ws j)) ws.length) 0 := by
  have hp : pickB (avgB step ws (avgTo step ws j)) ws.length < ws.length := pickB_lt' (ws_ne hv)
  refine ⟨hp, ?_⟩
  obtain ⟨i, hi, hw⟩ := pos_some hv
  have hm := avg_max hv hs hj H hi
  have h1 := (fac_bd hs (H.bd _ hp) (by omega)).1
  have h2 := (fac_bd hs (H.bd _ hi) (by omega)).1
  have h3 := Int.mul_pos hw h1
  by_cases h : 0 < ws.getD (pickB (avgB step ws (avgTo step ws j)) ws.length) 0
  · exact h
  · have : ws.getD (pickB (avgB step ws (avgTo step ws j)) ws.length) 0 = 0 := by have := (all_get hv hp).1; omega
    rw [this, Int.zero_mul] at hm; omega
theorem avg_is {step : Int} {ws : List Int} (hv : vwB ws = true) (hs : 1 ≤ step ∧ step ≤ 2) : ∀ j, j ≤ 1000 → Avg step ws j := by
  intro j
  induction j with
  | zero =>
    intro _
    have hz : ∀ i, (avgTo step ws 0).getD i 0 = 0 := fun i => by
      show (List.replicate ws.length (0 : Int)).getD i 0 = 0
      rw [List.getD_eq_getElem?_getD, List.getElem?_replicate]; split <;> rfl
    refine ⟨fun i hi => ?_, fun i hi _ => hz i, ?_⟩
    · rw [hz i]; omega
    · show (List.replicate ws.length (0 : Int)).sum = _
      simp
  | succ j ih =>
    intro hj
    have H := ih (by omega)
    obtain ⟨hp, hw⟩ := avg_pos hv hs (by omega) H
    have hl := avgTo_len step ws j
    have e := avgTo_succ step ws j
    generalize pickB (avgB step ws (avgTo step ws j)) ws.length = b at hp hw e
    have g1 := fun i => getD_set (avgTo step ws j) b ((avgTo step ws j).getD b 0 + 1) (by omega) i
    rw [← e] at g1
    refine ⟨fun i hi => ?_, fun i hi h0 => ?_, ?_⟩
    · rw [g1 i]
      have hb := H.bd b hp
      have hi' := H.bd i hi
      split <;> omega
    · rw [g1 i]
      by_cases eb : i = b
      · subst eb; omega
      · rw [if_neg eb]; exact H.zero i hi h0
    · rw [e, sum_set _ _ _ (by omega), H.sum]; simp; omega
end Go.Proofs.Ytfcgjiciobfncaa
namespace Go.Proofs.Ytfcgjiciobfncaa
open Go.RowKit

theorem sum_bdm (zs : List Int) (m : Int) (h : allB zs m = true) : ∀ k, k ≤ zs.length → 0 ≤ (zs.take k).sum ∧ (zs.take k).sum ≤ m * (k : Int) := by
  intro k
  induction k with
  | zero => intro _; simp
  | succ k ih =>
    intro hk
    have h1 := ih (by omega)
    have h2 := (allB_iff zs m).1 h _ (getD_mem (k := k) (by omega))
    rw [take_sum zs k (by omega)]
    have h3 : m * ((k + 1 : Nat) : Int) = m * (k : Int) + m := by rw [Int.natCast_add, Int.mul_add]; simp
    rw [h3]; omega
theorem sum_all {zs : List Int} {m : Int} (h : allB zs m = true) : 0 ≤ zs.sum ∧ zs.sum ≤ m * (zs.length : Int) := by
  have := sum_bdm zs m h zs.length (Nat.le_refl _)
  rwa [List.take_of_length_le (Nat.le_refl _)] at this

def absd (a b : Int) : Int := if a < b then b - a else a - b
theorem absd_lt {a b : Int} (h : a < b) : absd a b = b - a := if_pos h
theorem absd_ge {a b : Int} (h : ¬ a < b) : absd a b = a - b := if_neg h
def dterm (gs ws : List Int) (k : Nat) : Int := absd (gs.getD k 0 * ws.sum) (ws.getD k 0 * gs.sum)
def distTo (gs ws : List Int) : Nat → Int
  | 0 => 0
  | k + 1 => distTo gs ws k + dterm gs ws k
/-- what DistanceOf returns -/
def distI (gs ws : List Int) : Int := if vwB ws && decide (gs.length = ws.length) && allB gs 500 && decide (gs.sum ≤ 500) then distTo gs ws gs.length else -1
theorem dist_no1 {gs ws : List Int} (h : vwB ws = false) : distI gs ws = -1 := by unfold distI; rw [h]; rfl
theorem dist_no2 {gs ws : List Int} (h : gs.length ≠ ws.length) : distI gs ws = -1 := by unfold distI; rw [decide_eq_false h]; simp
theorem dist_no3 {gs ws : List Int} (h : allB gs 500 = false) : distI gs ws = -1 := by unfold distI; rw [h]; simp
theorem dist_no4 {gs ws : List Int} (h : 500 < gs.sum) : distI gs ws = -1 := by unfold distI; rw [decide_eq_false (by omega : ¬ gs.sum ≤ 500)]; simp
theorem dist_yes {gs ws : List Int} (h1 : vwB ws = true) (h2 : gs.length = ws.length) (h3 : allB gs 500 = true) (h4 : gs.sum ≤ 500) : distI gs ws = distTo gs ws gs.length := by
  unfold distI; rw [h1, h3, decide_eq_true h2, decide_eq_true h4]; rfl
/-- what holds of valid divisions -/
structure Div (gs ws : List Int) : Prop where
  len : gs.length = ws.length
  le : ws.length ≤ 12
  g : allB gs 500 = true
  w : allB ws 1000 = true
  gs0 : 0 ≤ gs.sum
  gs1 : gs.sum ≤ 500
  ws0 : 0 ≤ ws.sum
  ws1 : ws.sum ≤ 12000
theorem div_of {gs ws : List Int} (h1 : vwB ws = true) (h2 : gs.length = ws.length) (h3 : allB gs 500 = true) (h4 : gs.sum ≤ 500) : Div gs ws := by
  obtain ⟨a, b, c⟩ := vw_is h1
  have e := sum_all a
  exact ⟨h2, b, h3, a, (sum_all h3).1, h4, e.1, by omega⟩
theorem prod_bd {gs ws : List Int} (d : Div gs ws) {k : Nat} (hk : k < gs.length) : 0 ≤ gs.getD k 0 ∧ gs.getD k 0 ≤ 500 ∧ 0 ≤ ws.getD k 0 ∧ ws.getD k 0 ≤ 1000 ∧ 0 ≤ gs.getD k 0 * ws.sum ∧ gs.getD k 0 * ws.sum ≤ 6000000 ∧ 0 ≤ ws.getD k 0 * gs.sum ∧ ws.getD k 0 * gs.sum ≤ 500000 := by
  have a := (allB_iff gs 500).1 d.g _ (getD_mem hk)
  have b := (allB_iff ws 1000).1 d.w _ (getD_mem (k := k) (by rw [← d.len]; exact hk))
  exact ⟨a.1, a.2, b.1, b.2, Int.mul_nonneg a.1 d.ws0, Int.le_trans (Int.mul_le_mul a.2 d.ws1 d.ws0 (by omega)) (by omega), Int.mul_nonneg b.1 d.gs0, Int.le_trans (Int.mul_le_mul b.2 d.gs1 d.gs0 (by omega)) (by omega)⟩
theorem dist_bd {gs ws : List Int} (d : Div gs ws) : ∀ k, k ≤ gs.length → 0 ≤ distTo gs ws k ∧ distTo gs ws k ≤ 7000000 * (k : Int) := by
  intro k
  induction k with
  | zero => intro _; exact ⟨Int.le_refl _, by simp [distTo]⟩
  | succ k ih =>
    intro hk
    have h1 := ih (by omega)
    obtain ⟨_, _, _, _, a, b, c, e⟩ := prod_bd d (k := k) (by omega)
    show 0 ≤ distTo gs ws k + absd _ _ ∧ distTo gs ws k + absd _ _ ≤ _
    unfold absd
    split <;> omega

theorem dterm_comm (gs ws : List Int) (k : Nat) : distTo gs ws (k + 1) = distTo gs ws k + absd (gs.getD k 0 * ws.sum) (gs.sum * ws.getD k 0) := by
  rw [Int.mul_comm gs.sum]; rfl
end Go.Proofs.Ytfcgjiciobfncaa
namespace Go.Proofs.Ytfcgjiciobfncaa

/-- P10: how many of the first k weights are more than 0 -/
def posTo (ws : List Int) : Nat → Int
  | 0 => 0
  | k + 1 => posTo ws k + if 0 < ws.getD k 0 then 1 else 0
theorem posTo_succ (ws : List Int) (k : Nat) : posTo ws (k + 1) = posTo ws k + if 0 < ws.getD k 0 then 1 else 0 := rfl
theorem posTo_bd (ws : List Int) : ∀ k, 0 ≤ posTo ws k ∧ posTo ws k ≤ (k : Int) := by
  intro k
  induction k with
  | zero => exact ⟨Int.le_refl _, Int.le_refl _⟩
  | succ k ih => rw [posTo_succ]; split <;> omega
theorem posTo_mem (ws : List Int) {i : Nat} (h : 0 < ws.getD i 0) : ∀ k, i < k → 1 ≤ posTo ws k := by
  intro k
  induction k with
  | zero => intro hk; omega
  | succ k ih =>
    intro hk
    have := posTo_bd ws k
    rw [posTo_succ]
    by_cases e : i = k
    · subst e; rw [if_pos h]; omega
    · have := ih (by omega); split <;> omega
theorem take_all {l : List Int} {n : Nat} (h : l.length = n) : l.take n = l := List.take_of_length_le (by omega)
theorem rest_pos {n : Int} {ws : List Int} (hcs : csB n ws = true) : ∀ k, k ≤ ws.length → ((rsts n ws).take k).sum ≤ (ws.sum - 1) * posTo ws k := by
  have hl := rsts_len n ws
  intro k
  induction k with
  | zero => intro _; simp [posTo]
  | succ k ih =>
    intro hk
    have h1 := ih (by omega)
    have hb := rsts_bd hcs (i := k) (by omega)
    have hw := all_get (cs_yes hcs).2 (i := k) (by omega)
    rw [take_sum _ k (by omega), posTo_succ, Int.mul_add]
    by_cases h : 0 < ws.getD k 0
    · rw [if_pos h]; omega
    · have e : ws.getD k 0 = 0 := by omega
      have : (rsts n ws).getD k 0 = 0 := by rw [rsts_get n ws (by omega), e]; simp
      rw [if_neg h]; omega
theorem left_lt {n : Int} {ws : List Int} (hcs : csB n ws = true) : n - (qs n ws).sum < posTo ws ws.length := by
  obtain ⟨s0, s1⟩ := ws_bd (cs_yes hcs).2
  obtain ⟨i, hi, hp⟩ := pos_some (cs_yes hcs).2
  have h1 := posTo_mem ws hp ws.length hi
  have h2 := rest_pos hcs ws.length (Nat.le_refl _)
  rw [take_all (rsts_len n ws)] at h2
  have h3 := qr_sum n ws
  generalize posTo ws ws.length = p at *
  by_cases h : n - (qs n ws).sum < p
  · exact h
  · have h4 : ws.sum * p ≤ ws.sum * (n - (qs n ws).sum) := Int.mul_le_mul_of_nonneg_left (by omega) (by omega)
    rw [Int.mul_sub, Int.mul_comm ws.sum n] at h4
    rw [Int.sub_mul] at h2
    omega

/-- P11 -/
theorem sr_each {n : Int} {ws : List Int} (hcs : csB n ws = true) {i : Nat} (hi : i < ws.length) :
    (qs n ws).getD i 0 ≤ (sr n ws).getD i 0 ∧ (sr n ws).getD i 0 ≤ (qs n ws).getD i 0 + 1 ∧ (ws.getD i 0 = 0 → (sr n ws).getD i 0 = 0) := by
  have H := rest_is hcs (leftOf n ws) (Nat.le_refl _)
  have he := H.each i hi
  have hz : ws.getD i 0 = 0 → (qs n ws).getD i 0 = 0 ∧ (rsts n ws).getD i 0 = 0 := fun e => by
    rw [qs_get n ws hi, rsts_get n ws hi, e]; simp
  unfold sr
  rcases he with ⟨a, b⟩ | ⟨a, b, c⟩
  · exact ⟨by omega, by omega, fun e => by have := hz e; omega⟩
  · exact ⟨by omega, by omega, fun e => by have := hz e; omega⟩
theorem sr_sum {n : Int} {ws : List Int} (hcs : csB n ws = true) : (sr n ws).sum = n := by
  have H := (rest_is hcs (leftOf n ws) (Nat.le_refl _)).sum
  have := left_is hcs
  unfold sr; omega
theorem q_le_n {n : Int} {ws : List Int} (hcs : csB n ws = true) {i : Nat} (hi : i < ws.length) : 0 ≤ (qs n ws).getD i 0 ∧ (qs n ws).getD i 0 ≤ n := by
  obtain ⟨s0, s1⟩ := ws_bd (cs_yes hcs).2
  have hq := q_le hcs hi
  have hw := all_get (cs_yes hcs).2 hi
  have hle : ws.getD i 0 ≤ ws.sum := by
    have := posS_all (l := ws) (fun i hi => (all_get (cs_yes hcs).2 hi).1)
    have h2 := posS_set (l := ws) hi hw.1
    have h3 : 0 ≤ posS (ws.set i (-1)) := by
      unfold posS
      refine list_nonneg (fun j hj => ?_)
      have : ∀ l : List Int, ∀ j, 0 ≤ (l.map fun z => if z < 0 then 0 else z).getD j 0 := fun l j => by
        rw [List.getD_eq_getElem?_getD, List.getElem?_map]
        cases l[j]? with
        | none => simp
        | some z => simp; split <;> omega
      exact this _ j
    omega
  rw [qs_get n ws hi] at hq ⊢
  refine ⟨hq.1, ?_⟩
  have h1 : n * ws.getD i 0 ≤ n * ws.sum := Int.mul_le_mul_of_nonneg_left hle (cs_yes hcs).1.1
  have h2 := Int.ediv_le_ediv (c := ws.sum) (by omega) h1
  rwa [Int.mul_ediv_cancel _ (by omega)] at h2
theorem sr_bd {n : Int} {ws : List Int} (hcs : csB n ws = true) {i : Nat} (hi : i < ws.length) : 0 ≤ (sr n ws).getD i 0 ∧ (sr n ws).getD i 0 ≤ 501 := by
  have a := sr_each hcs hi
  have b := q_le_n hcs hi
  have c := (cs_yes hcs).1
  omega

/-- P13, P15 -/
def Env (step : Int) (ws gs : List Int) : Prop := ∀ i k, i < ws.length → k < ws.length → 0 < gs.getD k 0 → ws.getD i 0 * (step * (gs.getD k 0 - 1) + 1) ≤ ws.getD k 0 * (step * gs.getD i 0 + 1)
theorem env_is {step : Int} {ws : List Int} (hv : vwB ws = true) (hs : 1 ≤ step ∧ step ≤ 2) : ∀ j, j ≤ 1000 → Env step ws (avgTo step ws j) := by
  intro j
  induction j with
  | zero =>
    intro _ i k hi hk h
    have := (avg_is hv hs 0 (by omega)).bd k hk
    omega
  | succ j ih =>
    intro hj i k hi hk
    have E := ih (by omega)
    have A := avg_is hv hs j (by omega)
    have hb := (avg_pos hv hs (by omega) A).1
    have hmax := fun i (hi : i < ws.length) => avg_max hv hs (by omega) A hi
    have e := avgTo_succ step ws j
    have hl := avgTo_len step ws j
    generalize pickB (avgB step ws (avgTo step ws j)) ws.length = b at *
    have g1 := fun i => getD_set (avgTo step ws j) b ((avgTo step ws j).getD b 0 + 1) (by omega) i
    rw [← e] at g1
    have hw := (all_get hv hk).1
    have mono : ws.getD k 0 * (step * (avgTo step ws j).getD i 0 + 1) ≤ ws.getD k 0 * (step * (avgTo step ws (j + 1)).getD i 0 + 1) := by
      refine Int.mul_le_mul_of_nonneg_left ?_ hw
      have : step * (avgTo step ws j).getD i 0 ≤ step * (avgTo step ws (j + 1)).getD i 0 := by
        refine Int.mul_le_mul_of_nonneg_left ?_ (by omega)
        rw [g1 i]; split
        · next h => subst h; omega
        · omega
      omega
    intro h
    refine Int.le_trans ?_ mono
    rw [g1 k] at h ⊢
    by_cases ek : k = b
    · subst ek
      rw [if_pos rfl]
      have := hmax i hi
      rw [show (avgTo step ws j).getD k 0 + 1 - 1 = (avgTo step ws j).getD k 0 by omega]
      exact this
    · rw [if_neg ek] at h ⊢
      exact E i k hi hk h
theorem sa_facts {step n : Int} {ws : List Int} (hcs : csB n ws = true) (hs : 1 ≤ step ∧ step ≤ 2) :
    (sa step n ws).sum = n ∧ Env step ws (sa step n ws) ∧ ∀ i, i < ws.length → 0 ≤ (sa step n ws).getD i 0 ∧ (sa step n ws).getD i 0 ≤ n := by
  obtain ⟨⟨a, b⟩, hv⟩ := cs_yes hcs
  have A := avg_is hv hs n.toNat (by omega)
  unfold sa
  refine ⟨by rw [A.sum]; omega, env_is hv hs _ (by omega), fun i hi => by have := A.bd i hi; omega⟩
theorem high_env {n : Int} {ws : List Int} (hcs : csB n ws = true) {i k : Nat} (hi : i < ws.length) (hk : k < ws.length) : ws.getD i 0 * (sa 1 n ws).getD k 0 ≤ ws.getD k 0 * ((sa 1 n ws).getD i 0 + 1) := by
  obtain ⟨_, E, B⟩ := sa_facts hcs (step := 1) (by omega)
  have := B k hk
  have b2 := B i hi
  by_cases h : 0 < (sa 1 n ws).getD k 0
  · have := E i k hi hk h
    rw [Int.one_mul, Int.one_mul, show (sa 1 n ws).getD k 0 - 1 + 1 = (sa 1 n ws).getD k 0 by omega] at this
    exact this
  · have e : (sa 1 n ws).getD k 0 = 0 := by omega
    rw [e, Int.mul_zero]
    exact Int.mul_nonneg (all_get (cs_yes hcs).2 hk).1 (by omega)
theorem sum_mul_le (c d : Int) (gs ws : List Int) (m : Nat) (hg : gs.length = m) (hw : ws.length = m) (h : ∀ k, k < m → c * gs.getD k 0 ≤ ws.getD k 0 * d) : ∀ k, k ≤ m → c * (gs.take k).sum ≤ (ws.take k).sum * d := by
  intro k
  induction k with
  | zero => intro _; simp
  | succ k ih =>
    intro hk
    rw [take_sum gs k (by omega), take_sum ws k (by omega), Int.mul_add, Int.add_mul]
    have := ih (by omega)
    have := h k (by omega)
    omega
theorem sum_mul_lt (c d : Int) (gs ws : List Int) (m i : Nat) (hg : gs.length = m) (hw : ws.length = m) (h : ∀ k, k < m → c * gs.getD k 0 ≤ ws.getD k 0 * d) (hi : c * gs.getD i 0 < ws.getD i 0 * d) : ∀ k, k ≤ m → i < k → c * (gs.take k).sum < (ws.take k).sum * d := by
  intro k
  induction k with
  | zero => intro _ h; omega
  | succ k ih =>
    intro hk hik
    rw [take_sum gs k (by omega), take_sum ws k (by omega), Int.mul_add, Int.add_mul]
    have h1 := h k (by omega)
    by_cases e : i = k
    · subst e
      have := sum_mul_le c d gs ws m hg hw h i (by omega)
      omega
    · have := ih (by omega) (by omega)
      omega
theorem high_quota {n : Int} {ws : List Int} (hcs : csB n ws = true) {i : Nat} (hi : i < ws.length) : (qs n ws).getD i 0 ≤ (sa 1 n ws).getD i 0 := by
  obtain ⟨S, E, B⟩ := sa_facts hcs (step := 1) (by omega)
  obtain ⟨s0, s1⟩ := ws_bd (cs_yes hcs).2
  have hw := all_get (cs_yes hcs).2 hi
  have hb := B i hi
  rw [qs_get n ws hi]
  by_cases h0 : 0 < ws.getD i 0
  · have h1 := sum_mul_lt (ws.getD i 0) ((sa 1 n ws).getD i 0 + 1) (sa 1 n ws) ws ws.length i (sa_len 1 n ws) rfl (fun k hk => high_env hcs hi hk) (Int.mul_lt_mul_of_pos_left (by omega) h0) ws.length (Nat.le_refl _) hi
    rw [take_all (sa_len 1 n ws), take_all rfl, S] at h1
    have h2 : n * ws.getD i 0 / ws.sum < (sa 1 n ws).getD i 0 + 1 := Int.ediv_lt_of_lt_mul (by omega) (by rw [Int.mul_comm n, Int.mul_comm _ ws.sum]; exact h1)
    omega
  · have e : ws.getD i 0 = 0 := by omega
    rw [e, Int.mul_zero, Int.zero_ediv]; exact hb.1
theorem mid_env {n : Int} {ws : List Int} (hcs : csB n ws = true) {i k : Nat} (hi : i < ws.length) (hk : k < ws.length) (h : 0 < (sa 2 n ws).getD k 0) : ws.getD i 0 * (2 * (sa 2 n ws).getD k 0 - 1) ≤ ws.getD k 0 * (2 * (sa 2 n ws).getD i 0 + 1) := by
  have := (sa_facts hcs (step := 2) (by omega)).2.1 i k hi hk h
  rw [show 2 * ((sa 2 n ws).getD k 0 - 1) + 1 = 2 * (sa 2 n ws).getD k 0 - 1 by omega] at this
  exact this

/-- P14, P16: a list of zeros with a one -/
def one1 (m b : Nat) : List Int := (List.replicate m 0).set b 1
theorem one1_len (m b : Nat) : (one1 m b).length = m := by unfold one1; simp
theorem one1_get {m b : Nat} (hb : b < m) (i : Nat) : (one1 m b).getD i 0 = if i = b then 1 else 0 := by
  unfold one1
  rw [getD_set _ _ _ (by simpa using hb)]
  split
  · rfl
  · rw [List.getD_eq_getElem?_getD, List.getElem?_replicate]; split <;> rfl
theorem one1_sum {m b : Nat} (hb : b < m) : (one1 m b).sum = 1 := by
  unfold one1
  rw [sum_set _ _ _ (by simpa using hb), List.getD_eq_getElem?_getD, List.getElem?_replicate]
  simp [hb]
theorem sa_more {step n : Int} {ws : List Int} (hcs : csB n ws = true) (hs : 1 ≤ step ∧ step ≤ 2) : ∃ b, b < ws.length ∧ sa step (n + 1) ws = (sa step n ws).set b ((sa step n ws).getD b 0 + 1) := by
  obtain ⟨⟨a, b⟩, hv⟩ := cs_yes hcs
  refine ⟨pickB (avgB step ws (avgTo step ws n.toNat)) ws.length, (avg_pos hv hs (by omega) (avg_is hv hs n.toNat (by omega))).1, ?_⟩
  unfold sa
  rw [show (n + 1).toNat = n.toNat + 1 by omega, avgTo_succ]
theorem csB_more {n : Int} {ws : List Int} (hcs : csB n ws = true) (h : n ≠ 500) : csB (n + 1) ws = true := by
  obtain ⟨⟨a, b⟩, hv⟩ := cs_yes hcs
  rw [cs_is (by omega)]; exact hv
/-- the greatest of the first k numbers, at least 0 -/
def hiTo (zs : List Int) : Nat → Int
  | 0 => 0
  | k + 1 => max (hiTo zs k) (zs.getD k 0)
theorem hiTo_succ (zs : List Int) (k : Nat) : hiTo zs (k + 1) = max (hiTo zs k) (zs.getD k 0) := rfl
/-- how many of the first k numbers are n -/
def cntTo (zs : List Int) (n : Int) : Nat → Int
  | 0 => 0
  | k + 1 => cntTo zs n k + if zs.getD k 0 = n then 1 else 0
theorem cntTo_succ (zs : List Int) (n : Int) (k : Nat) : cntTo zs n (k + 1) = cntTo zs n k + if zs.getD k 0 = n then 1 else 0 := rfl
theorem cntTo_bd (zs : List Int) (n : Int) : ∀ k, 0 ≤ cntTo zs n k ∧ cntTo zs n k ≤ (k : Int) := by
  intro k
  induction k with
  | zero => exact ⟨Int.le_refl _, Int.le_refl _⟩
  | succ k ih => rw [cntTo_succ]; split <;> omega
theorem one1_hi {m b : Nat} (hb : b < m) : hiTo (one1 m b) m = 1 := by
  have : ∀ k, hiTo (one1 m b) k = if b < k then 1 else 0 := by
    intro k
    induction k with
    | zero => simp [hiTo]
    | succ k ih =>
      rw [hiTo_succ, ih, one1_get hb]
      by_cases h1 : b < k
      · rw [if_pos h1, if_neg (show ¬ k = b by omega), if_pos (by omega)]; decide
      · by_cases h2 : k = b
        · rw [if_neg h1, if_pos h2, if_pos (by omega)]; decide
        · rw [if_neg h1, if_neg h2, if_neg (by omega)]; decide
  rw [this, if_pos hb]
theorem one1_cnt {m b : Nat} (hb : b < m) : cntTo (one1 m b) 0 m = (m : Int) - 1 := by
  have : ∀ k, cntTo (one1 m b) 0 k = if b < k then (k : Int) - 1 else k := by
    intro k
    induction k with
    | zero => simp [cntTo]
    | succ k ih =>
      rw [cntTo_succ, ih, one1_get hb]
      by_cases h1 : b < k
      · rw [if_pos h1, if_neg (show ¬ k = b by omega), if_pos rfl, if_pos (by omega)]; omega
      · by_cases h2 : k = b
        · rw [if_neg h1, if_pos h2, if_neg (by omega), if_pos (by omega)]; omega
        · rw [if_neg h1, if_neg h2, if_pos rfl, if_neg (by omega)]; omega
  rw [this, if_pos hb]
/-- twice the weights -/
def dbl (ws : List Int) : List Int := ws.map fun z => 2 * z
theorem dbl_len (ws : List Int) : (dbl ws).length = ws.length := by unfold dbl; simp
theorem dbl_get (ws : List Int) (i : Nat) : (dbl ws).getD i 0 = 2 * ws.getD i 0 := by
  unfold dbl
  rw [List.getD_eq_getElem?_getD, List.getD_eq_getElem?_getD, List.getElem?_map]
  cases ws[i]? <;> simp
theorem dbl_sum (ws : List Int) : (dbl ws).sum = 2 * ws.sum := by
  unfold dbl
  induction ws with
  | nil => rfl
  | cons x l ih => simp only [List.map_cons, List.sum_cons, ih]; omega
theorem hi_bd (zs : List Int) : ∀ k i, i < k → zs.getD i 0 ≤ hiTo zs k := by
  intro k
  induction k with
  | zero => intro i h; omega
  | succ k ih =>
    intro i h
    rw [hiTo_succ]
    by_cases e : i = k
    · subst e; exact Int.le_max_right _ _
    · exact Int.le_trans (ih i (by omega)) (Int.le_max_left _ _)
theorem dbl_cs {n : Int} {ws : List Int} (hcs : csB n ws = true) (h : hiTo (dbl ws) ws.length ≤ 1000) : csB n (dbl ws) = true := by
  obtain ⟨⟨a, b⟩, hv⟩ := cs_yes hcs
  rw [cs_is (by omega)]
  have hl := dbl_len ws
  have hd : allB (dbl ws) 1000 = true := allB_yes (fun i hi => by
    rw [hl] at hi
    have h1 := hi_bd (dbl ws) ws.length i hi
    have h2 := dbl_get ws i
    have h3 := all_get hv hi
    omega)
  unfold vwB
  rw [hd, decide_eq_true (by rw [hl]; exact (vw_is hv).2.1), decide_eq_true (by rw [dbl_sum]; have := (ws_bd hv).1; omega)]
  rfl
theorem dbl_avg (step : Int) (ws : List Int) : ∀ j, avgTo step (dbl ws) j = avgTo step ws j := by
  have hR : ∀ gs, avgB step (dbl ws) gs = avgB step ws gs := fun gs => by
    funext i b
    unfold avgB
    rw [dbl_get, dbl_get, Int.mul_assoc, Int.mul_assoc]
    exact decide_eq_decide.2 (by omega)
  intro j
  induction j with
  | zero => show List.replicate _ _ = List.replicate _ _; rw [dbl_len]
  | succ j ih => rw [avgTo_succ, avgTo_succ, ih, hR, dbl_len]
theorem dbl_sa (step n : Int) (ws : List Int) : sa step n (dbl ws) = sa step n ws := dbl_avg step ws _

/-- P12: nothing is nearer -/
def chosen (n : Int) (ws : List Int) (i : Nat) : Prop := (sr n ws).getD i 0 = (qs n ws).getD i 0 + 1
theorem near_rho {n : Int} {ws : List Int} (hcs : csB n ws = true) : ∃ r : Int, 0 ≤ r ∧ r ≤ ws.sum ∧ ∀ i, i < ws.length →
    ((sr n ws).getD i 0 = (qs n ws).getD i 0 + 1 ∧ r ≤ (rsts n ws).getD i 0) ∨ ((sr n ws).getD i 0 = (qs n ws).getD i 0 ∧ (rsts n ws).getD i 0 ≤ r) := by
  have H := rest_is hcs (leftOf n ws) (Nat.le_refl _)
  have ord : ∀ i k, i < ws.length → k < ws.length → (sr n ws).getD i 0 = (qs n ws).getD i 0 + 1 → (sr n ws).getD k 0 = (qs n ws).getD k 0 → (rsts n ws).getD k 0 ≤ (rsts n ws).getD i 0 := fun i k hi hk h1 h2 => by
    have a := H.each i hi
    have b := H.each k hk
    have c := rsts_bd hcs hk
    unfold sr at h1 h2
    exact H.order i k hi hk (by omega) (by omega)
  obtain ⟨s0, s1⟩ := ws_bd (cs_yes hcs).2
  have key : ∀ m, m ≤ ws.length → ∃ r : Int, 0 ≤ r ∧ r ≤ ws.sum ∧ (∀ i, i < m → (sr n ws).getD i 0 = (qs n ws).getD i 0 + 1 → r ≤ (rsts n ws).getD i 0) ∧ (∀ i, i < ws.length → (sr n ws).getD i 0 = (qs n ws).getD i 0 → (rsts n ws).getD i 0 ≤ r) := by
    intro m
    induction m with
    | zero => intro _; exact ⟨ws.sum, by omega, Int.le_refl _, fun i hi => by omega, fun i hi _ => Int.le_of_lt (rsts_bd hcs hi).2.1⟩
    | succ m ih =>
      intro hm
      obtain ⟨r, r0, r1, h1, h2⟩ := ih (by omega)
      have hb := rsts_bd hcs (i := m) (by omega)
      by_cases hc : (sr n ws).getD m 0 = (qs n ws).getD m 0 + 1
      · by_cases hr : r ≤ (rsts n ws).getD m 0
        · refine ⟨r, r0, r1, fun i hi h => ?_, h2⟩
          by_cases e : i = m
          · subst e; exact hr
          · exact h1 i (by omega) h
        · refine ⟨(rsts n ws).getD m 0, hb.1, Int.le_of_lt hb.2.1, fun i hi h => ?_, fun i hi h => ord m i (by omega) hi hc h⟩
          by_cases e : i = m
          · subst e; exact Int.le_refl _
          · have := h1 i (by omega) h; omega
      · refine ⟨r, r0, r1, fun i hi h => ?_, h2⟩
        by_cases e : i = m
        · subst e; exact absurd h hc
        · exact h1 i (by omega) h
  obtain ⟨r, r0, r1, h1, h2⟩ := key ws.length (Nat.le_refl _)
  refine ⟨r, r0, r1, fun i hi => ?_⟩
  have a := H.each i hi
  have e : (sr n ws).getD i 0 = (qs n ws).getD i 0 ∨ (sr n ws).getD i 0 = (qs n ws).getD i 0 + 1 := by unfold sr; omega
  rcases e with e | e
  · exact .inr ⟨e, h2 i hi e⟩
  · exact .inl ⟨e, h1 i hi e⟩
theorem absd_le_iff (a b c : Int) : c ≤ absd a b ↔ c ≤ b - a ∨ c ≤ a - b := by
  unfold absd; split <;> omega
theorem near_one {S r p q o x : Int} (hr0 : 0 ≤ r) (hr1 : r < S) (hp0 : 0 ≤ p) (hp1 : p ≤ S) (ho : (o = q + 1 ∧ p ≤ r) ∨ (o = q ∧ r ≤ p)) :
    absd (o * S) (S * q + r) + (S - 2 * p) * (x - o) ≤ absd (x * S) (S * q + r) := by
  have e1 : ∀ y : Int, (q + y) * S - (S * q + r) = y * S - r := fun y => by rw [Int.add_mul, Int.mul_comm q S]; omega
  obtain ⟨y, rfl⟩ : ∃ y, x = q + y := ⟨x - q, by omega⟩
  have hx := e1 y
  rw [absd_le_iff]
  rcases ho with ⟨rfl, hp⟩ | ⟨rfl, hp⟩
  · have h1 := e1 1
    have ea : absd ((q + 1) * S) (S * q + r) = S - r := by unfold absd; split <;> omega
    rw [ea]
    by_cases hy : 1 ≤ y
    · right
      have h2 : 0 ≤ p * (y - 1) := Int.mul_nonneg hp0 (by omega)
      have h3 : (S - 2 * p) * (q + y - (q + 1)) = y * S - S - 2 * (p * (y - 1)) := by
        rw [show q + y - (q + 1) = y - 1 by omega, Int.sub_mul, Int.mul_sub S, Int.mul_one, Int.mul_comm S y, Int.mul_assoc]
      omega
    · left
      have h2 : 0 ≤ (S - p) * (-y) := Int.mul_nonneg (by omega) (by omega)
      have h3 : (S - 2 * p) * (q + y - (q + 1)) = y * S - S - 2 * (p * y) + 2 * p := by
        rw [show q + y - (q + 1) = y - 1 by omega, Int.sub_mul, Int.mul_sub S, Int.mul_one, Int.mul_comm S y, Int.mul_assoc, Int.mul_sub p, Int.mul_one]; omega
      rw [Int.mul_neg, Int.sub_mul, Int.mul_comm S y] at h2
      omega
  · have h1 := e1 0
    have ea : absd (o * S) (S * o + r) = r := by
      rw [Int.add_zero, Int.zero_mul] at h1
      unfold absd; split <;> omega
    rw [ea]
    by_cases hy : 1 ≤ y
    · right
      have h2 : 0 ≤ p * (y - 1) := Int.mul_nonneg hp0 (by omega)
      have h3 : (S - 2 * p) * (o + y - o) = y * S - 2 * (p * y) := by
        rw [show o + y - o = y by omega, Int.sub_mul, Int.mul_comm S y, Int.mul_assoc]
      rw [Int.mul_sub, Int.mul_one] at h2
      omega
    · left
      have h2 : 0 ≤ (S - p) * (-y) := Int.mul_nonneg (by omega) (by omega)
      have h3 : (S - 2 * p) * (o + y - o) = y * S - 2 * (p * y) := by
        rw [show o + y - o = y by omega, Int.sub_mul, Int.mul_comm S y, Int.mul_assoc]
      rw [Int.mul_neg, Int.sub_mul, Int.mul_comm S y] at h2
      omega
theorem near {n : Int} {ws xs : List Int} (hcs : csB n ws = true) (hl : xs.length = ws.length) (hx : xs.sum = n) : distTo (sr n ws) ws ws.length ≤ distTo xs ws ws.length := by
  obtain ⟨p, p0, p1, hp⟩ := near_rho hcs
  obtain ⟨s0, s1⟩ := ws_bd (cs_yes hcs).2
  have ho := sr_sum hcs
  have hol := sr_len n ws
  have key : ∀ k, k ≤ ws.length → distTo (sr n ws) ws k + (ws.sum - 2 * p) * ((xs.take k).sum - ((sr n ws).take k).sum) ≤ distTo xs ws k := by
    intro k
    induction k with
    | zero => intro _; simp [distTo]
    | succ k ih =>
      intro hk
      have h1 := ih (by omega)
      have hr := rsts_bd hcs (i := k) (by omega)
      have e : ws.getD k 0 * n = ws.sum * (qs n ws).getD k 0 + (rsts n ws).getD k 0 := by
        rw [qs_get n ws (by omega), rsts_get n ws (by omega), Int.mul_comm _ n]
        exact (Int.mul_ediv_add_emod _ _).symm
      have h2 := near_one (x := xs.getD k 0) (q := (qs n ws).getD k 0) (o := (sr n ws).getD k 0) hr.1 hr.2.1 p0 p1 (hp k (by omega))
      rw [← e] at h2
      show distTo (sr n ws) ws k + dterm (sr n ws) ws k + _ ≤ distTo xs ws k + dterm xs ws k
      have d1 : dterm (sr n ws) ws k = absd ((sr n ws).getD k 0 * ws.sum) (ws.getD k 0 * n) := by unfold dterm; rw [ho]
      have d2 : dterm xs ws k = absd (xs.getD k 0 * ws.sum) (ws.getD k 0 * n) := by unfold dterm; rw [hx]
      rw [d1, d2, take_sum xs k (by omega), take_sum (sr n ws) k (by omega)]
      have h3 : (ws.sum - 2 * p) * ((xs.take k).sum + xs.getD k 0 - (((sr n ws).take k).sum + (sr n ws).getD k 0)) = (ws.sum - 2 * p) * ((xs.take k).sum - ((sr n ws).take k).sum) + (ws.sum - 2 * p) * (xs.getD k 0 - (sr n ws).getD k 0) := by
        rw [← Int.mul_add]; congr 1; omega
      rw [h3]; omega
  have := key ws.length (Nat.le_refl _)
  rw [take_all hl, take_all hol, hx, ho, Int.sub_self, Int.mul_zero] at this
  omega
end Go.Proofs.Ytfcgjiciobfncaa
namespace Go.Proofs.Ytfcgjiciobfncaa
set_option linter.unusedVariables false

theorem set_self {zs : List Int} {i : Nat} {z : Int} (h : zs.getD i 0 = z) (hi : i < zs.length) : zs.set i z = zs := by
  apply List.ext_getElem?
  intro j
  rw [List.getElem?_set]
  by_cases e : i = j
  · subst e
    rw [if_pos rfl, if_pos hi, List.getElem?_eq_getElem hi]
    rw [List.getD_eq_getElem?_getD, List.getElem?_eq_getElem hi] at h
    rw [← h]; rfl
  · rw [if_neg e]
/-- what passes a node of what comes -/
def passV (x : Nd) (c : Int) : Int := if c ≤ x.2.2.1 then 0 else if x.2.2.2.1 < c - x.2.2.1 then x.2.2.2.1 else c - x.2.2.1
theorem pass_bd {x : Nd} {c : Int} (hr : 0 ≤ x.2.2.2.1) (hc : 0 ≤ c) (hl : 0 ≤ x.2.2.1) : 0 ≤ passV x c ∧ passV x c ≤ c ∧ passV x c ≤ x.2.2.2.1 := by
  unfold passV; split
  · exact ⟨Int.le_refl _, hc, hr⟩
  · split <;> constructor <;> omega
theorem pass_min {x : Nd} {c : Int} (hr : 0 ≤ x.2.2.2.1) (hc : 0 ≤ c) (hl : 0 ≤ x.2.2.1) : passV x c = min x.2.2.2.1 (c - min x.2.2.1 c) := by
  unfold passV; split
  · omega
  · split <;> omega
theorem pass_more {x : Nd} {c : Int} (hr : 0 ≤ x.2.2.2.1) (hl : 0 ≤ x.2.2.1) : passV x (c + 1) = passV x c ∨ passV x (c + 1) = passV x c + 1 := by
  unfold passV
  repeat' split
  all_goals omega
/-- the weights of nodes -/
def wk (ns : List Nd) (ks : List Int) : List Int := ks.map fun z => (ns.getD z.toNat nd0).2.1
theorem wk_len (ns : List Nd) (ks : List Int) : (wk ns ks).length = ks.length := by unfold wk; rw [List.length_map]
theorem wk_get (ns : List Nd) (ks : List Int) {i : Nat} (h : i < ks.length) : (wk ns ks).getD i 0 = (ns.getD (ks.getD i 0).toNat nd0).2.1 := by
  unfold wk
  have e : ks.getD i 0 = ks[i] := by rw [List.getD_eq_getElem?_getD, List.getElem?_eq_getElem h]; rfl
  rw [e, List.getD_eq_getElem?_getD, List.getElem?_map, List.getElem?_eq_getElem h]; rfl
def wts (ns : List Nd) (k : Int) : List Int := wk ns (kidsF ns k)
theorem wts_bd {ns : List Nd} (h : vnB ns = true) (k : Int) : ∀ z ∈ wts ns k, 0 ≤ z ∧ z ≤ 1000 := by
  intro z hz
  unfold wts wk at hz
  obtain ⟨y, hy, rfl⟩ := List.mem_map.1 hz
  obtain ⟨j, rfl, hj, _⟩ := kids_bd hy
  have := (vn_at h hj).1
  show 0 ≤ (ns.getD ((j : Int)).toNat nd0).2.1 ∧ _
  rw [show ((j : Int)).toNat = j from by omega]; exact this
theorem kids_len2 (ns : List Nd) (at_ : Int) : (kidsF ns at_).length ≤ ns.length := kidsTo_len ns at_ _
theorem wts_len {ns : List Nd} (h : vnB ns = true) (k : Int) : (wts ns k).length ≤ 12 := by
  unfold wts; rw [wk_len]; have := kids_len2 ns k; have := (vn_is h).2.1; omega
theorem wts_vw {ns : List Nd} (h : vnB ns = true) (k : Int) : vwB (wts ns k) = decide (0 < (wts ns k).sum) :=
  vw_sum ((allB_iff _ _).2 (wts_bd h k)) (wts_len h k)
theorem wts_pos {ns : List Nd} (h : vnB ns = true) (k : Int) : 0 ≤ (wts ns k).sum := list_nonneg (fun i hi => (wts_bd h k _ (getD_mem hi)).1)
theorem wts_zero {ns : List Nd} (h : vnB ns = true) (k : Int) : ((wts ns k).sum == 0) = !(vwB (wts ns k)) := by
  have := wts_pos h k
  rw [wts_vw h k]
  by_cases e : (wts ns k).sum = 0
  · rw [e]; rfl
  · rw [decide_eq_true (by omega), beq_eq_false_iff_ne.2 e]; rfl
/-- what the kids of a node get -/
def giveV (ns : List Nd) (k : Int) (p : Int) : List Int := if vwB (wts ns k) = true then sa 2 p (wts ns k) else []
theorem give_len (ns : List Nd) (k : Int) (p : Int) : (giveV ns k p).length ≤ (kidsF ns k).length := by
  unfold giveV; split
  · rw [sa_len]; unfold wts; rw [wk_len]; exact Nat.le_refl _
  · simp
/-- numbers that are stored at places -/
def putTo (cs ks vs : List Int) : Nat → List Int
  | 0 => cs
  | m + 1 => (putTo cs ks vs m).set (ks.getD m 0).toNat (vs.getD m 0)
theorem putTo_succ (cs ks vs : List Int) (m : Nat) : putTo cs ks vs (m + 1) = (putTo cs ks vs m).set (ks.getD m 0).toNat (vs.getD m 0) := rfl
theorem putTo_len (cs ks vs : List Int) : ∀ m, (putTo cs ks vs m).length = cs.length := by
  intro m
  induction m with
  | zero => rfl
  | succ m ih => rw [putTo_succ, List.length_set]; exact ih
theorem putTo_other {cs ks vs : List Int} {j : Nat} : ∀ m, (∀ i, i < m → (ks.getD i 0).toNat ≠ j) → (putTo cs ks vs m).getD j 0 = cs.getD j 0 := by
  intro m
  induction m with
  | zero => intro _; rfl
  | succ m ih =>
    intro h
    rw [putTo_succ]
    by_cases hl : (ks.getD m 0).toNat < (putTo cs ks vs m).length
    · rw [getD_setZ j _ hl, if_neg (fun c => h m (by omega) c.symm)]
      exact ih (fun i hi => h i (by omega))
    · rw [List.set_eq_of_length_le (by omega)]
      exact ih (fun i hi => h i (by omega))
theorem putTo_at {cs ks vs : List Int} (hd : ∀ i j, i < j → j < ks.length → (ks.getD i 0).toNat ≠ (ks.getD j 0).toNat) (hb : ∀ i, i < ks.length → (ks.getD i 0).toNat < cs.length) {i : Nat} : ∀ m, i < m → m ≤ ks.length → (putTo cs ks vs m).getD (ks.getD i 0).toNat 0 = vs.getD i 0 := by
  intro m
  induction m with
  | zero => intro h; omega
  | succ m ih =>
    intro him hm
    rw [putTo_succ, getD_setZ _ _ (by rw [putTo_len]; exact hb m (by omega))]
    by_cases e : i = m
    · subst e; rw [if_pos rfl]
    · rw [if_neg (hd i m (by omega) (by omega)), ih (by omega) (by omega)]
theorem putTo_zero {cs ks : List Int} : ∀ (m : Nat) (vs : List Int), (∀ i, vs.getD i 0 = 0) → (∀ i, i < m → (ks.getD i 0).toNat < cs.length ∧ cs.getD (ks.getD i 0).toNat 0 = 0) → putTo cs ks vs m = cs := by
  intro m
  induction m with
  | zero => intro _ _ _; rfl
  | succ m ih =>
    intro vs hv h
    rw [putTo_succ, ih vs hv (fun i hi => h i (by omega)), hv m]
    exact set_self (h m (by omega)).2 (h m (by omega)).1
theorem app_l {a b : List Int} {i : Nat} (h : i < a.length) : (a ++ b).getD i 0 = a.getD i 0 := by
  rw [List.getD_eq_getElem?_getD, List.getD_eq_getElem?_getD, List.getElem?_append_left h]
theorem app_r {a : List Int} {z : Int} : (a ++ [z]).getD a.length 0 = z := by
  rw [List.getD_eq_getElem?_getD, List.getElem?_append_right (Nat.le_refl _), Nat.sub_self]; rfl
/-- kids ascend -/
theorem kidsTo_asc (ns : List Nd) (at_ : Int) : ∀ k i j, i < j → j < (kidsTo ns at_ k).length → (kidsTo ns at_ k).getD i 0 < (kidsTo ns at_ k).getD j 0 := by
  intro k
  induction k with
  | zero => intro i j _ h; exact absurd h (Nat.not_lt_zero _)
  | succ k ih =>
    intro i j hij hj
    by_cases h : (ns.getD k nd0).1 = at_
    · rw [kidsTo_yes h] at hj ⊢
      rw [List.length_append] at hj
      have hj' : j < (kidsTo ns at_ k).length + 1 := hj
      by_cases e : j < (kidsTo ns at_ k).length
      · rw [app_l e, app_l (by omega)]
        exact ih i j hij e
      · have e2 : j = (kidsTo ns at_ k).length := by omega
        rw [app_l (by omega), e2, app_r]
        obtain ⟨m, hm, hmk, _⟩ := kidsTo_mem ns at_ k _ (getD_mem (zs := kidsTo ns at_ k) (k := i) (by omega))
        rw [hm]
        show (m : Int) < (k : Int)
        omega
    · rw [kidsTo_no h] at hj ⊢
      exact ih i j hij hj
theorem kid_at {ns : List Nd} {at_ : Int} {i : Nat} (h : i < (kidsF ns at_).length) : ∃ j : Nat, (kidsF ns at_).getD i 0 = (j : Int) ∧ j < ns.length ∧ (ns.getD j nd0).1 = at_ := kids_bd (getD_mem h)
theorem kid_ne {ns : List Nd} {at_ : Int} : ∀ i j, i < j → j < (kidsF ns at_).length → ((kidsF ns at_).getD i 0).toNat ≠ ((kidsF ns at_).getD j 0).toNat := fun i j hij hj => by
  have := kidsTo_asc ns at_ ns.length i j hij hj
  obtain ⟨a, ha, _⟩ := kid_at (ns := ns) (at_ := at_) (i := i) (by omega)
  obtain ⟨b, hb, _⟩ := kid_at hj
  unfold kidsF at *
  omega
theorem kid_pos {ns : List Nd} {at_ : Int} {j : Nat} (h : (ns.getD j nd0).1 = at_) (hj : j < ns.length) : ∃ i, i < (kidsF ns at_).length ∧ (kidsF ns at_).getD i 0 = (j : Int) := by
  obtain ⟨i, hi, e⟩ := List.getElem_of_mem (kidsTo_in h ns.length hj)
  exact ⟨i, hi, by unfold kidsF; rw [List.getD_eq_getElem?_getD, List.getElem?_eq_getElem hi, e]; rfl⟩
/-- what comes to the nodes after the first k nodes have passed on what they pass -/
def stepC (ns : List Nd) (cs : List Int) (k : Nat) : List Int := putTo cs (kidsF ns (k : Int)) (giveV ns (k : Int) (passV (ns.getD k nd0) (cs.getD k 0))) (giveV ns (k : Int) (passV (ns.getD k nd0) (cs.getD k 0))).length
def comeTo (ns : List Nd) (fl : Int) : Nat → List Int
  | 0 => (List.replicate ns.length 0).set 0 fl
  | k + 1 => stepC ns (comeTo ns fl k) k
theorem comeTo_succ (ns : List Nd) (fl : Int) (k : Nat) : comeTo ns fl (k + 1) = stepC ns (comeTo ns fl k) k := rfl
def comeF (ns : List Nd) (fl : Int) : List Int := comeTo ns fl ns.length
theorem comeTo_len (ns : List Nd) (fl : Int) : ∀ k, (comeTo ns fl k).length = ns.length := by
  intro k
  induction k with
  | zero => show ((List.replicate ns.length 0).set 0 fl).length = _; rw [List.length_set, List.length_replicate]
  | succ k ih => rw [comeTo_succ]; unfold stepC; rw [putTo_len]; exact ih
theorem comeTo_zero (ns : List Nd) (fl : Int) (j : Nat) (hn : 0 < ns.length) : (comeTo ns fl 0).getD j 0 = if j = 0 then fl else 0 := by
  show ((List.replicate ns.length 0).set 0 fl).getD j 0 = _
  rw [getD_setZ j fl (by rw [List.length_replicate]; exact hn)]
  by_cases e : j = 0
  · rw [if_pos e, if_pos e]
  · rw [if_neg e, if_neg e, List.getD_eq_getElem?_getD, List.getElem?_replicate]; split <;> rfl
theorem comeTo_stay {ns : List Nd} {fl : Int} {k j : Nat} (h : (ns.getD j nd0).1 ≠ (k : Int)) : (comeTo ns fl (k + 1)).getD j 0 = (comeTo ns fl k).getD j 0 := by
  rw [comeTo_succ]
  unfold stepC
  refine putTo_other _ (fun i hi c => ?_)
  have hl := give_len ns (k : Int) (passV (ns.getD k nd0) ((comeTo ns fl k).getD k 0))
  obtain ⟨q, hq, _, hp⟩ := kid_at (ns := ns) (at_ := (k : Int)) (i := i) (by omega)
  rw [hq] at c
  have : q = j := by omega
  rw [this] at hp
  exact h hp
theorem comeTo_late {ns : List Nd} {fl : Int} {j : Nat} : ∀ d k, (∀ m : Nat, k ≤ m → (ns.getD j nd0).1 ≠ (m : Int)) → (comeTo ns fl (k + d)).getD j 0 = (comeTo ns fl k).getD j 0 := by
  intro d
  induction d with
  | zero => intro k _; rfl
  | succ d ih =>
    intro k h
    show (comeTo ns fl ((k + d) + 1)).getD j 0 = _
    rw [comeTo_stay (h (k + d) (by omega)), ih k h]
theorem comeTo_early {ns : List Nd} {fl : Int} {j : Nat} : ∀ k, (∀ m : Nat, m < k → (ns.getD j nd0).1 ≠ (m : Int)) → (comeTo ns fl k).getD j 0 = (comeTo ns fl 0).getD j 0 := by
  intro k
  induction k with
  | zero => intro _; rfl
  | succ k ih => intro h; rw [comeTo_stay (h k (by omega)), ih (fun m hm => h m (by omega))]
/-- what comes to a node of a valid channel is known when its turn comes -/
theorem come_own {ns : List Nd} (hv : vnB ns = true) {fl : Int} {j : Nat} (hj : j < ns.length) : (comeF ns fl).getD j 0 = (comeTo ns fl j).getD j 0 := by
  have b := vn_parI hv hj
  unfold comeF
  rw [show ns.length = j + (ns.length - j) from by omega]
  exact comeTo_late _ _ (fun m hm c => by omega)
/-- what comes to the spring -/
theorem come_spring {ns : List Nd} (hv : vnB ns = true) {fl : Int} : (comeF ns fl).getD 0 0 = fl := by
  rw [come_own hv (vn_is hv).1, comeTo_zero ns fl 0 (vn_is hv).1]; rfl
theorem csB_pass {ns : List Nd} (hv : vnB ns = true) {k : Nat} (hk : k < ns.length) {c : Int} (hc : 0 ≤ c) (hw : vwB (wts ns (k : Int)) = true) : csB (passV (ns.getD k nd0) c) (wts ns (k : Int)) = true := by
  obtain ⟨_, b, d, _⟩ := vn_at hv hk
  have := pass_bd d.1 hc b.1
  rw [cs_is (by omega)]; exact hw
theorem comeTo_bd {ns : List Nd} (hv : vnB ns = true) {fl : Int} (hf : 0 ≤ fl ∧ fl ≤ 500) : ∀ k, k ≤ ns.length → ∀ j, 0 ≤ (comeTo ns fl k).getD j 0 ∧ (comeTo ns fl k).getD j 0 ≤ 500 := by
  intro k
  induction k with
  | zero =>
    intro _ j
    rw [comeTo_zero ns fl j (vn_is hv).1]
    split
    · exact hf
    · omega
  | succ k ih =>
    intro hk j
    have ih := ih (by omega)
    by_cases hp : j < ns.length ∧ (ns.getD j nd0).1 = (k : Int)
    · obtain ⟨i, hi, he⟩ := kid_pos hp.2 hp.1
      rw [comeTo_succ]
      unfold stepC
      by_cases hw : vwB (wts ns (k : Int)) = true
      · have hcs := csB_pass hv (k := k) (by omega) (ih k).1 hw
        have hg : giveV ns (k : Int) (passV (ns.getD k nd0) ((comeTo ns fl k).getD k 0)) = sa 2 (passV (ns.getD k nd0) ((comeTo ns fl k).getD k 0)) (wts ns (k : Int)) := if_pos hw
        have hlen : (sa 2 (passV (ns.getD k nd0) ((comeTo ns fl k).getD k 0)) (wts ns (k : Int))).length = (kidsF ns (k : Int)).length := by rw [sa_len]; unfold wts; rw [wk_len]
        rw [hg, hlen]
        have := putTo_at (cs := comeTo ns fl k) (vs := sa 2 (passV (ns.getD k nd0) ((comeTo ns fl k).getD k 0)) (wts ns (k : Int))) (kid_ne (ns := ns) (at_ := (k : Int))) (fun i hi => by obtain ⟨q, hq, hql, _⟩ := kid_at hi; rw [hq, comeTo_len]; omega) (i := i) _ hi (Nat.le_refl _)
        rw [he] at this
        rw [show ((j : Int)).toNat = j from by omega] at this
        rw [this]
        obtain ⟨_, _, hb⟩ := sa_facts hcs (step := 2) (by omega)
        have := hb i (by unfold wts; rw [wk_len]; exact hi)
        have := (cs_yes hcs).1
        omega
      · have hg : giveV ns (k : Int) (passV (ns.getD k nd0) ((comeTo ns fl k).getD k 0)) = [] := if_neg hw
        rw [hg]; exact ih j
    · by_cases hj : j < ns.length
      · rw [comeTo_stay (fun c => hp ⟨hj, c⟩)]; exact ih j
      · rw [List.getD_eq_getElem?_getD, List.getElem?_eq_none (by rw [comeTo_len]; omega)]
        exact ⟨Int.le_refl _, by show (0 : Int) ≤ 500; omega⟩
theorem come_bd {ns : List Nd} (hv : vnB ns = true) {fl : Int} (hf : 0 ≤ fl ∧ fl ≤ 500) (j : Nat) : 0 ≤ (comeF ns fl).getD j 0 ∧ (comeF ns fl).getD j 0 ≤ 500 := comeTo_bd hv hf ns.length (Nat.le_refl _) j
/-- what comes to a kid -/
theorem come_kid {ns : List Nd} (hv : vnB ns = true) {fl : Int} (hf : 0 ≤ fl ∧ fl ≤ 500) {k : Nat} (hk : k < ns.length) {i : Nat} (hi : i < (kidsF ns (k : Int)).length) :
    (comeF ns fl).getD ((kidsF ns (k : Int)).getD i 0).toNat 0 = if vwB (wts ns (k : Int)) = true then (sa 2 (passV (ns.getD k nd0) ((comeF ns fl).getD k 0)) (wts ns (k : Int))).getD i 0 else 0 := by
  obtain ⟨j, hj, hjl, hp⟩ := kid_at hi
  rw [hj, show ((j : Int)).toNat = j from by omega]
  have b := vn_parI hv hjl
  have h1 : (comeF ns fl).getD j 0 = (comeTo ns fl (k + 1)).getD j 0 := by
    unfold comeF
    rw [show ns.length = (k + 1) + (ns.length - (k + 1)) from by omega]
    exact comeTo_late _ _ (fun m hm c => by omega)
  rw [h1, come_own hv hk, comeTo_succ]
  unfold stepC
  by_cases hw : vwB (wts ns (k : Int)) = true
  · have hg : giveV ns (k : Int) (passV (ns.getD k nd0) ((comeTo ns fl k).getD k 0)) = sa 2 (passV (ns.getD k nd0) ((comeTo ns fl k).getD k 0)) (wts ns (k : Int)) := if_pos hw
    have hlen : (sa 2 (passV (ns.getD k nd0) ((comeTo ns fl k).getD k 0)) (wts ns (k : Int))).length = (kidsF ns (k : Int)).length := by rw [sa_len]; unfold wts; rw [wk_len]
    rw [if_pos hw, hg, hlen]
    have := putTo_at (cs := comeTo ns fl k) (vs := sa 2 (passV (ns.getD k nd0) ((comeTo ns fl k).getD k 0)) (wts ns (k : Int))) (kid_ne (ns := ns) (at_ := (k : Int))) (fun i hi => by obtain ⟨q, hq, hql, _⟩ := kid_at hi; rw [hq, comeTo_len]; omega) (i := i) _ hi (Nat.le_refl _)
    rw [hj] at this
    rw [show ((j : Int)).toNat = j from by omega] at this
    exact this
  · have hg : giveV ns (k : Int) (passV (ns.getD k nd0) ((comeTo ns fl k).getD k 0)) = [] := if_neg hw
    rw [if_neg hw, hg]
    show (comeTo ns fl k).getD j 0 = 0
    rw [comeTo_early k (fun m hm c => by omega), comeTo_zero ns fl j (by omega), if_neg (by omega)]
/-- a step that gives nothing, as one that gives 0 to each kid -/
theorem step_zero {ns : List Nd} (hv : vnB ns = true) {fl : Int} {k : Nat} (hk : k < ns.length) (hw : ¬ vwB (wts ns (k : Int)) = true) : putTo (comeTo ns fl k) (kidsF ns (k : Int)) (List.replicate (kidsF ns (k : Int)).length 0) (kidsF ns (k : Int)).length = comeTo ns fl (k + 1) := by
  rw [comeTo_succ]
  unfold stepC
  have hg : giveV ns (k : Int) (passV (ns.getD k nd0) ((comeTo ns fl k).getD k 0)) = [] := if_neg hw
  rw [hg]
  show _ = comeTo ns fl k
  refine putTo_zero _ _ (fun i => ?_) (fun i hi => ?_)
  · rw [List.getD_eq_getElem?_getD, List.getElem?_replicate]; split <;> rfl
  · obtain ⟨j, hj, hjl, hp⟩ := kid_at hi
    have b := vn_parI hv hjl
    rw [hj, show ((j : Int)).toNat = j from by omega, comeTo_len]
    refine ⟨hjl, ?_⟩
    rw [comeTo_early k (fun m hm c => by omega), comeTo_zero ns fl j (by omega), if_neg (by omega)]
theorem step_give {ns : List Nd} {fl : Int} {k : Nat} (hw : vwB (wts ns (k : Int)) = true) : putTo (comeTo ns fl k) (kidsF ns (k : Int)) (sa 2 (passV (ns.getD k nd0) ((comeTo ns fl k).getD k 0)) (wts ns (k : Int))) (kidsF ns (k : Int)).length = comeTo ns fl (k + 1) := by
  rw [comeTo_succ]
  unfold stepC
  have hg : giveV ns (k : Int) (passV (ns.getD k nd0) ((comeTo ns fl k).getD k 0)) = sa 2 (passV (ns.getD k nd0) ((comeTo ns fl k).getD k 0)) (wts ns (k : Int)) := if_pos hw
  rw [hg, sa_len]
  unfold wts; rw [wk_len]
def flB (ns : List Nd) (fl : Int) : Bool := vnB ns && (decide (0 ≤ fl) && decide (fl ≤ 500))
def flowV (ns : List Nd) (fl : Int) : List Int := if flB ns fl = true then comeF ns fl else []
theorem flow_no {ns : List Nd} {fl : Int} (h : flB ns fl = false) : flowV ns fl = [] := by unfold flowV; rw [h]; rfl
theorem flow_yes {ns : List Nd} {fl : Int} (h : flB ns fl = true) : flowV ns fl = comeF ns fl := by unfold flowV; rw [h]; rfl
theorem flB_is {ns : List Nd} {fl : Int} (h : flB ns fl = true) : vnB ns = true ∧ 0 ≤ fl ∧ fl ≤ 500 := by
  unfold flB at h; simp only [Bool.and_eq_true, decide_eq_true_eq] at h; exact h
theorem flB_no {ns : List Nd} {fl : Int} (h : vnB ns = false ∨ (decide (0 ≤ fl) && decide (fl ≤ 500)) = false) : flB ns fl = false := by
  unfold flB; rcases h with h | h <;> rw [h] <;> simp
/-- what passes each node -/
def passF (ns : List Nd) (fl : Int) : List Int := (List.range ns.length).map fun i => passV (ns.getD i nd0) ((comeF ns fl).getD i 0)
theorem passF_len (ns : List Nd) (fl : Int) : (passF ns fl).length = ns.length := by unfold passF; simp
theorem passF_get (ns : List Nd) (fl : Int) {i : Nat} (h : i < ns.length) : (passF ns fl).getD i 0 = passV (ns.getD i nd0) ((comeF ns fl).getD i 0) := by
  unfold passF
  rw [List.getD_eq_getElem?_getD, List.getElem?_map, List.getElem?_range h]; rfl
def passedV (ns : List Nd) (fl : Int) : List Int := if flB ns fl = true then passF ns fl else []
theorem passed_no {ns : List Nd} {fl : Int} (h : flB ns fl = false) : passedV ns fl = [] := by unfold passedV; rw [h]; rfl
theorem passed_yes {ns : List Nd} {fl : Int} (h : flB ns fl = true) : passedV ns fl = passF ns fl := by unfold passedV; rw [h]; rfl
theorem passF_bd {ns : List Nd} (hv : vnB ns = true) {fl : Int} (hf : 0 ≤ fl ∧ fl ≤ 500) {i : Nat} (h : i < ns.length) : 0 ≤ (passF ns fl).getD i 0 ∧ (passF ns fl).getD i 0 ≤ (comeF ns fl).getD i 0 ∧ (passF ns fl).getD i 0 ≤ 500 ∧ (passF ns fl).getD i 0 ≤ (ns.getD i nd0).2.2.2.1 := by
  rw [passF_get ns fl h]
  obtain ⟨_, b, d, _⟩ := vn_at hv h
  have a := come_bd hv hf i
  have := pass_bd d.1 a.1 b.1
  omega
end Go.Proofs.Ytfcgjiciobfncaa
namespace Go.Proofs.Ytfcgjiciobfncaa
open Go.RowKit

theorem row_set {w : World} {g : Nat} {zs : List Int} (h : Row w g zs) (k : Nat) (z : Int) (hk : k < zs.length) : Row (w.setCell ⟨g, k, none⟩ (.int .i64 z)) g (zs.set k z) := by
  unfold Row at *
  rw [List.length_set]
  exact (World.rowIs.set h k (.int .i64 z)).congr (fun j hj => by
    show (if j = k then Value.int .i64 z else .int .i64 (zs.getD j 0)) = _
    rw [getD_set _ _ _ hk]; split <;> rfl)
theorem row_skip {w : World} {g g' : Nat} {zs : List Int} (h : Row w g zs) (k : Nat) (v : Value) (hne : g' ≠ g) : Row (w.setCell ⟨g', k, none⟩ v) g zs :=
  World.rowIs.of_block h (Below.heap_setCell w ⟨g', k, none⟩ v g (fun e => by first | exact hne e | exact hne e.symm))
theorem pickB_at (R : Nat → Nat → Bool) {k n : Nat} (h : k < n) : pickB R k < n := by
  by_cases h0 : k = 0
  · subst h0; exact h
  · exact Nat.lt_trans (pickB_lt' (by omega)) h

/-- what a division leaves -/
def Divd (m : Nat) (R : List Int) (w : World) (e : Ending) (w' : World) : Prop := ∃ g : Nat, e = .returned (.slice (some ⟨g, 0, none⟩) m m) ∧ w.heap.size ≤ g ∧ Row w' g R ∧ Below w.heap.size w w'

theorem isumN (m : Nat) (a : Option Addr) (cap : Nat) (zs : List Int) (w : World) (hl : zs.length = m) (h : IsInts w a zs) (hn : m ≤ 1048576) (hz : ∀ z ∈ zs, -1000000 ≤ z ∧ z ≤ 1000000) :
    Calls Try.prog 71 #[.slice a m cap] w fun e w' => e = .returned (.int .i64 zs.sum) ∧ w = w' := by
  subst hl; exact isum a cap zs w h hn hz
theorem r_bd {n : Int} {ws : List Int} (h : csB n ws = true) {k : Nat} (hk : k < ws.length) : 0 ≤ n * ws.getD k 0 ∧ n * ws.getD k 0 ≤ 500000 := (q_bd h hk).2.2
end Go.Proofs.Ytfcgjiciobfncaa
namespace Go.Proofs.Ytfcgjiciobfncaa
open Go.RowKit

theorem fac_all {step x v : Int} (h : 1 ≤ step ∧ step ≤ 2) (hx : 0 ≤ x ∧ x ≤ 1000) (hv : 0 ≤ v ∧ v ≤ 1000) :
    0 ≤ step * v ∧ step * v ≤ 2000 ∧ 0 ≤ x * (step * v + 1) ∧ x * (step * v + 1) ≤ 2001000 := by
  have a := Int.mul_nonneg (a := step) (by omega) hv.1
  have b : step * v ≤ 2 * 1000 := Int.mul_le_mul h.2 hv.2 hv.1 (by omega)
  have c := Int.mul_nonneg (b := step * v + 1) hx.1 (by omega)
  have d : x * (step * v + 1) ≤ 1000 * 2001 := Int.mul_le_mul hx.2 (by omega) (by omega) (by omega)
  omega
theorem wrap_of {z : Int} (h : -2000000000 ≤ z ∧ z ≤ 2000000000) : IntKind.i64.wrap z = z := by rw [IntKind.wrap_i64]; omega

set_option maxHeartbeats 1000000 in
/-- impl.highestAverage -/
theorem ihigh (a b : Option Addr) (ca cb : Nat) (step : Int) (ws gs : List Int) (w : World) (ha : IsInts w a ws) (hb : IsInts w b gs) (hl : gs.length = ws.length) (hn : ws.length ≤ 1048576) (hs : 1 ≤ step ∧ step ≤ 2)
    (h1 : ∀ i, i < ws.length → 0 ≤ ws.getD i 0 ∧ ws.getD i 0 ≤ 1000) (h2 : ∀ i, i < ws.length → 0 ≤ gs.getD i 0 ∧ gs.getD i 0 ≤ 1000) (hz : 0 < ws.length) :
    Calls Try.prog 106 #[.slice a ws.length ca, .slice b ws.length cb, .int .i64 step] w fun e w' => e = .returned (.int .i64 (pickB (avgB step ws gs) ws.length : Nat)) ∧ Below w.heap.size w w' := by
  rcases ha with rfl | ⟨g, o, rfl, hc⟩
  · exact absurd hz (by simp)
  · rcases hb with rfl | ⟨g2, o2, rfl, hc2⟩
    · exact absurd hl (by simp; omega)
    · have HC := Lib.hid hc
      have HD := Lib.hid hc2
      have H1 := Lib.hid h1
      have H2 := Lib.hid h2
      clear hc hc2 h1 h2
      go_enter Try.func106, Try.ntmps106
      go_wp2_with fail
      go_loopw [7, 11] (fun b i wr => ∃ k : Nat, k ≤ ws.length ∧ i = .int .i64 k ∧ b = .int .i64 (pickB (avgB step ws gs) k : Nat) ∧ Below w.heap.size w wr) (fun _ i _ => ws.length - (intOf i).toNat)
      case atStart => exact ⟨0, Nat.zero_le _, rfl, rfl, Below.refl _ _⟩
      case round =>
        obtain ⟨k, hk, rfl, rfl, hB⟩ := hrel
        by_cases hlt : k < ws.length
        · have hb := pickB_at (avgB step ws gs) hlt
          have c1 := (hB.cell (p := ⟨g, o + k, none⟩) (World.block_lt_of_cell? w _ (HC.out k hlt))).trans (HC.out k hlt)
          have c2 := (hB.cell (p := ⟨g, o + pickB (avgB step ws gs) k, none⟩) (World.block_lt_of_cell? w _ (HC.out _ hb))).trans (HC.out _ hb)
          have c3 := (hB.cell (p := ⟨g2, o2 + k, none⟩) (World.block_lt_of_cell? w _ (HD.out k (by omega)))).trans (HD.out k (by omega))
          have c4 := (hB.cell (p := ⟨g2, o2 + pickB (avgB step ws gs) k, none⟩) (World.block_lt_of_cell? w _ (HD.out _ (by omega)))).trans (HD.out _ (by omega))
          have hsu := pickB_succ (avgB step ws gs) k
          have hm : avgB step ws gs k (pickB (avgB step ws gs) k) = decide (ws.getD k 0 * (step * gs.getD (pickB (avgB step ws gs) k) 0 + 1) > ws.getD (pickB (avgB step ws gs) k) 0 * (step * gs.getD k 0 + 1)) := rfl
          rw [hm] at hsu
          obtain ⟨p1, p2, p3, p4⟩ := fac_all (x := ws.getD k 0) hs (H1.out k hlt) (H2.out _ hb)
          obtain ⟨q1, q2, q3, q4⟩ := fac_all (x := ws.getD (pickB (avgB step ws gs) k) 0) hs (H1.out _ hb) (H2.out k hlt)
          clear hm
          generalize pickB (avgB step ws gs) k = b at *
          generalize ws.getD k 0 = x at *
          generalize ws.getD b 0 = y at *
          generalize gs.getD k 0 = u at *
          generalize gs.getD b 0 = v at *
          have t1 : IntKind.i64.wrap (step * v) = step * v := wrap_of (by omega)
          have t2 : IntKind.i64.wrap (step * u) = step * u := wrap_of (by omega)
          have t3 : IntKind.i64.wrap (step * v + 1) = step * v + 1 := wrap_of (by omega)
          have t4 : IntKind.i64.wrap (step * u + 1) = step * u + 1 := wrap_of (by omega)
          have t5 : IntKind.i64.wrap (x * (step * v + 1)) = x * (step * v + 1) := wrap_of (by omega)
          have t6 : IntKind.i64.wrap (y * (step * u + 1)) = y * (step * u + 1) := wrap_of (by omega)
          have i0 : (0 : Int) ≤ (k : Int) := by omega
          have i1 : (k : Int) < (ws.length : Int) := by omega
          have i2 : (0 : Int) ≤ (b : Int) := by omega
          have i3 : (b : Int) < (ws.length : Int) := by omega
          clear hl hs
          by_cases hxy : y * (step * u + 1) < x * (step * v + 1)
          · have hs' : pickB (avgB step ws gs) (k + 1) = k := by rw [hsu]; simp [hxy]
            have HS := Lib.hid hs'
            clear hsu hs'
            go_wp2_with fail
            go_quiet (fail)
            go_wp2
            go_roundw
            case rel => exact ⟨k + 1, by omega, by go_num, by rw [HS.out], below_drewN hB _⟩
            case measure => simp [intOf]; omega
          · have hs' : pickB (avgB step ws gs) (k + 1) = b := by rw [hsu, decide_eq_false (by omega)]; rfl
            have HS := Lib.hid hs'
            clear hsu hs'
            go_wp2_with fail
            go_quiet (fail)
            go_wp2
            go_roundw
            case rel => exact ⟨k + 1, by omega, by go_num, by rw [HS.out], below_drewN hB _⟩
            case measure => simp [intOf]; omega
        · have e : k = ws.length := by omega
          subst e
          go_wp2_with fail
          go_ret
          exact ⟨rfl, hB⟩

theorem iavg_no (step n : Int) (a : Option Addr) (cap : Nat) (ws : List Int) (w : World) (h : IsInts w a ws) (hn : ws.length ≤ 1048576) (hcs : csB n ws = false) :
    Calls Try.prog 103 #[.int .i64 n, .slice a ws.length cap, .int .i64 step] w fun e w' => e = .returned (.slice none 0 0) ∧ w = w' := by
  go_enter Try.func103, Try.ntmps103
  go_wp2_with fail
  refine (icanSplit n a cap ws _ h hn).mono ?_
  rintro e w' ⟨rfl, rfl⟩
  go_wp2_with fail
  go_ret
  exact ⟨rfl, rfl⟩
set_option maxHeartbeats 2000000 in
theorem iavg (step n : Int) (a : Option Addr) (cap : Nat) (ws : List Int) (w : World) (h : IsInts w a ws) (hn : ws.length ≤ 1048576) (hs : 1 ≤ step ∧ step ≤ 2) (hcs : csB n ws = true) :
    Calls Try.prog 103 #[.int .i64 n, .slice a ws.length cap, .int .i64 step] w (Divd ws.length (sa step n ws) w) := by
  obtain ⟨⟨n0, n1⟩, hv⟩ := cs_yes hcs
  have hmk := run_make_row' (P := Try.prog) 31 3 (.int .i64 0) 8 Try.underlying31 infoInt rfl .i64 .i64 ws.length (by omega) (by omega)
  have l1 := ws_ne hv
  have HV := Lib.hid hv
  have HK := Lib.hid hcs
  have H0 := Lib.hid h
  clear hv hcs h
  go_enter Try.func103, Try.ntmps103
  go_wp2_with fail
  refine (icanSplit n _ cap ws _ H0.out hn).mono ?_
  rintro e w' ⟨rfl, rfl⟩
  rw [HK.out]
  go_wp2_with fail
  clear hmk
  go_loopw [8] (fun l wr => ∃ j : Nat, j ≤ n.toNat ∧ l = .int .i64 (n - j) ∧ Row wr w.heap.size (avgTo step ws j) ∧ Below w.heap.size w wr) (fun l _ => (intOf l).toNat)
  case atStart =>
    refine ⟨0, Nat.zero_le _, by go_num, ?_, by go_grown⟩
    unfold Row
    rw [avgTo_len]
    refine (World.rowIs_made w (.int .i64 0) ws.length _).congr (fun i hi => ?_)
    show Value.int .i64 0 = .int .i64 ((List.replicate ws.length (0 : Int)).getD i 0)
    rw [List.getD_eq_getElem?_getD, List.getElem?_replicate]; split <;> rfl
  case round =>
    obtain ⟨j, hj, rfl, RG, hB⟩ := hrel
    by_cases hjn : (j : Int) < n
    · have A := avg_is HV.out hs j (by omega)
      obtain ⟨hb, _⟩ := avg_pos HV.out hs (by omega) A
      have hl := avgTo_len step ws j
      have e1 := avgTo_succ step ws j
      have hbd : ∀ i, i < ws.length → 0 ≤ (avgTo step ws j).getD i 0 ∧ (avgTo step ws j).getD i 0 ≤ 1000 := fun i hi => by have := A.bd i hi; omega
      obtain ⟨G', hG'⟩ : ∃ G', avgTo step ws (j + 1) = G' := ⟨_, rfl⟩
      rw [hG'] at e1
      have HG := Lib.hid hG'
      clear hG' A
      generalize avgTo step ws j = G at *
      have HBD := Lib.hid hbd
      have HRG := Lib.hid RG
      have HB := Lib.hid hB
      have HE := Lib.hid e1
      clear hbd RG hB e1
      go_wp2_with fail
      refine (ihigh _ _ _ _ step ws G _ (ints_below H0.out HB.out) (row_ints HRG.out) hl hn hs (fun i hi => all_get HV.out hi) HBD.out l1).mono ?_
      rintro e w3 ⟨rfl, B3⟩
      have RG := row_keep HRG.out B3
      have B4 := bel_tr HB.out B3
      have E1 := HE.out
      have hy := HBD.out _ hb
      generalize pickB (avgB step ws G) ws.length = b at *
      have hx := World.rowIs.cell RG (i := b) (by omega)
      have hf := World.rowIs.frozen RG b
      have i0 : (0 : Int) ≤ (b : Int) := by omega
      have i1 : (b : Int) < (ws.length : Int) := by omega
      have sG := row_set RG b (G.getD b 0 + 1) (by omega)
      rw [← E1] at sG
      have sB : Below w.heap.size w (w3.setCell ⟨w.heap.size, b, none⟩ (.int .i64 (G.getD b 0 + 1))) := B4.setCell (Nat.le_refl _) _
      have HS := Lib.hid (And.intro sG sB)
      clear sG sB RG B3 B4 E1 HE HRG HB
      generalize G.getD b 0 = y at *
      go_wp2
      go_roundw
      case rel => exact ⟨j + 1, by omega, by go_num, by rw [HG.out]; exact HS.out.1, HS.out.2⟩
      case measure => simp [intOf]; omega
    · have e : j = n.toNat := by omega
      subst e
      have e2 : ((n.toNat : Nat) : Int) = n := by omega
      have HR := Lib.hid RG
      clear RG
      rw [e2]
      go_wp2
      go_ret
      exact ⟨w.heap.size, rfl, Nat.le_refl _, HR.out, hB⟩
theorem imiddle_no (n : Int) (a : Option Addr) (cap : Nat) (ws : List Int) (w : World) (h : IsInts w a ws) (hn : ws.length ≤ 1048576) (hcs : csB n ws = false) :
    Calls Try.prog 97 #[.int .i64 n, .slice a ws.length cap] w fun e w' => e = .returned (.slice none 0 0) ∧ w = w' := by
  go_enter Try.func97, Try.ntmps97
  go_wp2_with fail
  refine (iavg_no 2 n a cap ws _ h hn hcs).mono ?_
  rintro e w' ⟨rfl, rfl⟩
  go_wp2_with fail
  go_ret
  exact ⟨rfl, rfl⟩
theorem imiddle (n : Int) (a : Option Addr) (cap : Nat) (ws : List Int) (w : World) (h : IsInts w a ws) (hn : ws.length ≤ 1048576) (hcs : csB n ws = true) :
    Calls Try.prog 97 #[.int .i64 n, .slice a ws.length cap] w (Divd ws.length (sa 2 n ws) w) := by
  have HC := Lib.hid hcs
  clear hcs
  go_enter Try.func97, Try.ntmps97
  go_wp2_with fail
  refine (iavg 2 n a cap ws _ h hn (by omega) HC.out).mono ?_
  rintro e w' ⟨g, rfl, hg, hr, hB⟩
  go_wp2_with fail
  go_ret
  exact ⟨g, rfl, hg, hr, hB⟩
end Go.Proofs.Ytfcgjiciobfncaa
namespace Go.Proofs.Ytfcgjiciobfncaa
open Go.RowKit
set_option linter.unusedSimpArgs false
set_option linter.unusedVariables false
theorem kp6 {W wq v : World} {p0 p1 p2 p3 p4 p5 : Addr} {u0 u1 u2 u3 u4 u5 : Value} (hb : Below W.heap.size W wq) (h : (W.cell? p0 = some u0 ∧ W.cell? p1 = some u1 ∧ W.cell? p2 = some u2 ∧ W.cell? p3 = some u3 ∧ W.cell? p4 = some u4 ∧ W.cell? p5 = some u5) ∧ Below v.heap.size v W) :
    (wq.cell? p0 = some u0 ∧ wq.cell? p1 = some u1 ∧ wq.cell? p2 = some u2 ∧ wq.cell? p3 = some u3 ∧ wq.cell? p4 = some u4 ∧ wq.cell? p5 = some u5) ∧ Below v.heap.size v wq := by
  obtain ⟨⟨a, b, c, d, e, f⟩, g⟩ := h
  have k : ∀ {p : Addr} {u : Value}, W.cell? p = some u → wq.cell? p = some u := fun hp => (hb.cell (World.block_lt_of_cell? W _ hp)).trans hp
  exact ⟨⟨k a, k b, k c, k d, k e, k f⟩, bel_tr g hb⟩
set_option maxHeartbeats 1000000 in
/-- impl.passingOf -/
theorem ipassing (x0 x1 x2 x3 x4 c : Int) (w : World) (hc : 0 ≤ c ∧ c ≤ 500) (h2 : 0 ≤ x2 ∧ x2 ≤ 500) (h3 : 0 ≤ x3 ∧ x3 ≤ 500) :
    Calls Try.prog 87 #[.agg #[.int .i64 x0, .int .i64 x1, .int .i64 x2, .int .i64 x3, .int .i64 x4], .int .i64 c] w fun e w' => e = .returned (.int .i64 (passV (x0, x1, x2, x3, x4) c)) ∧ Below w.heap.size w w' := by
  by_cases h : c ≤ x2
  · have HV : Hid (passV (x0, x1, x2, x3, x4) c = 0) := by show passV _ c = 0; unfold passV; exact if_pos h
    have e1 : decide (c ≤ x2) = true := decide_eq_true h
    go_enter Try.func87, Try.ntmps87
    go_wp2_with fail
    go_ret
    exact ⟨ret_int HV.out.symm, by go_grown⟩
  · have e1 : decide (c ≤ x2) = false := decide_eq_false h
    have wz : IntKind.i64.wrap (c - x2) = c - x2 := by rw [IntKind.wrap_i64]; omega
    by_cases h4 : x3 < c - x2
    · have HV : Hid (passV (x0, x1, x2, x3, x4) c = x3) := by show passV _ c = x3; unfold passV; rw [if_neg h]; exact if_pos h4
      have e2 : decide (x3 < c - x2) = true := decide_eq_true h4
      go_enter Try.func87, Try.ntmps87
      go_wp2_with fail
      go_ret
      exact ⟨ret_int HV.out.symm, by go_grown⟩
    · have HV : Hid (passV (x0, x1, x2, x3, x4) c = c - x2) := by show passV _ c = c - x2; unfold passV; rw [if_neg h]; exact if_neg h4
      have e2 : decide (x3 < c - x2) = false := decide_eq_false h4
      go_enter Try.func87, Try.ntmps87
      go_wp2_with fail
      go_ret
      exact ⟨ret_int HV.out.symm, by go_grown⟩
set_option maxHeartbeats 2000000 in
/-- impl.weightsOf -/
theorem iweights (a b : Option Addr) (cap cb : Nat) (ns : List Nd) (ks : List Int) (w : World) (h : IsNd w a ns) (hb : IsInts w b ks) (hk : ∀ z ∈ ks, ∃ j : Nat, z = (j : Int) ∧ j < ns.length) (hn : ks.length ≤ 1048576) (hnn : ns.length ≤ 1048576) :
    Calls Try.prog 98 #[.slice a ns.length cap, .slice b ks.length cb] w (OutI w (wk ns ks)) := by
  have hmk := run_make_row' (P := Try.prog) 31 3 (.int .i64 0) 8 Try.underlying31 infoInt rfl .i64 .i64 ks.length (by omega) (by omega)
  rcases hb with rfl | ⟨gb, ob, rfl, hcb⟩
  · have hmk0 := run_make_row' (P := Try.prog) 31 3 (.int .i64 0) 8 Try.underlying31 infoInt rfl .i64 .i64 0 (by omega) (by omega)
    rw [show ((0 : Nat) : Int) = 0 from rfl] at hmk0
    clear hmk
    go_enter Try.func98, Try.ntmps98
    go_wp2_with fail
    refine wp_loop_rounds 1 ?_
    rw [rounds_succ]
    go_wp2_with fail
    go_ret
    exact ⟨_, rfl, OwnI.made (Below.refl _ w) 0 (by omega), by go_grown⟩
  · have HC := Lib.hid h
    have HCB := Lib.hid hcb
    have HK := Lib.hid hk
    clear h hcb hk
    go_enter Try.func98, Try.ntmps98
    go_wp2_with fail
    clear hmk
    go_loopw [13] (fun i wr => ∃ k : Nat, k ≤ ks.length ∧ i = .int .i64 k ∧ wr.rowIs w.heap.size 3 ks.length (fun j => if j < k then .int .i64 ((wk ns ks).getD j 0) else .int .i64 0) ∧ Below w.heap.size w wr) (fun i _ => ks.length - (intOf i).toNat)
    case atStart => exact ⟨0, Nat.zero_le _, rfl, (World.rowIs_made w (.int .i64 0) ks.length _).congr (fun i hi => by simp), by go_grown⟩
    case round =>
      obtain ⟨k, hk, rfl, hrow, hB⟩ := hrel
      by_cases hlt : k < ks.length
      · have hc0 := HCB.out k hlt
        have hc := (hB.cell (p := ⟨gb, ob + k, none⟩) (World.block_lt_of_cell? w _ hc0)).trans hc0
        obtain ⟨m, hm, hml⟩ := HK.out _ (getD_mem hlt)
        have hd : wr.cell? ⟨w.heap.size, k, none⟩ = some (.int .i64 0) := by rw [hrow.cell hlt, if_neg (Nat.lt_irrefl k)]
        have hf := hrow.frozen k
        have hcon : ∀ z : Int, (wk ns ks).getD k 0 = z → (wr.setCell ⟨w.heap.size, k, none⟩ (.int .i64 z)).rowIs w.heap.size 3 ks.length (fun j => if j < k + 1 then .int .i64 ((wk ns ks).getD j 0) else .int .i64 0) := fun z hz =>
          (hrow.set k (.int .i64 z)).congr (fun j hj => by
            show (if j = k then Value.int .i64 z else if j < k then .int .i64 ((wk ns ks).getD j 0) else .int .i64 0) = _
            by_cases hjk : j = k
            · subst hjk; rw [if_pos rfl, if_pos (by omega), hz]
            · rw [if_neg hjk]
              by_cases hl : j < k
              · rw [if_pos hl, if_pos (by omega)]
              · rw [if_neg hl, if_neg (by omega)])
        have hcon2 := hcon _ (wk_get ns ks hlt)
        rw [hm, show ((m : Int)).toNat = m from by omega] at hcon2
        rw [hm] at hc
        have hnd : IsNd w a ns := HC.out
        rcases hnd with rfl | ⟨g, o, rfl, hcn⟩
        · simp at hml
        have c1 := (nd_at hcn hB hml).2.1
        clear hcon hc0 hcn hm
        generalize (ns.getD m nd0).2.1 = z at c1 hcon2
        have HR := Lib.hid hcon2
        have HB := Lib.hid hB
        have b0 : (0 : Int) ≤ (m : Int) := by omega
        have b1 : (m : Int) < (ns.length : Int) := by omega
        clear hcon2 hrow hB
        go_wp2
        go_roundw
        case rel => exact ⟨k + 1, by omega, by go_num, HR.out, HB.out.setCell (Nat.le_refl _) _⟩
        case measure => simp [intOf]; omega
      · have HR := Lib.hid hrow
        have HB := Lib.hid hB
        clear hrow hB
        go_wp2
        go_ret
        refine ⟨_, rfl, ?_, HB.out⟩
        exact OwnI.of_row HR.out (wk_len ns ks) (fun j hj => by rw [if_pos (by omega)]) (Nat.le_refl _) hn
theorem row_own {w : World} {base g : Nat} {zs : List Int} (h : Row w g zs) (hb : base ≤ g) (hn : zs.length ≤ 1048576) : OwnI w base (.slice (some ⟨g, 0, none⟩) zs.length zs.length) zs :=
  OwnI.of_row h rfl (fun j hj => rfl) hb hn
/-- impl.SplitByMiddle, whatever the weights -/
theorem imidV (n : Int) (a : Option Addr) (cap : Nat) (ws : List Int) (w : World) (h : IsInts w a ws) (hn : ws.length ≤ 1048576) :
    Calls Try.prog 97 #[.int .i64 n, .slice a ws.length cap] w (OutI w (if csB n ws = true then sa 2 n ws else [])) := by
  by_cases hc : csB n ws = true
  · rw [if_pos hc]
    refine (imiddle n a cap ws w h hn hc).mono ?_
    rintro e w' ⟨g, rfl, hg, hr, hB⟩
    have := row_own hr hg (by rw [sa_len]; exact hn)
    rw [sa_len] at this
    exact ⟨_, rfl, this, hB⟩
  · rw [if_neg hc]
    refine (imiddle_no n a cap ws w h hn (by simpa using hc)).mono ?_
    rintro e w' ⟨rfl, rfl⟩
    exact outI_nil (Below.refl _ _)
theorem icanFlow (a : Option Addr) (cap : Nat) (ns : List Nd) (fl : Int) (w : World) (h : IsNd w a ns) (hn : ns.length ≤ 1048576) (hcap : ns.length ≤ cap) :
    Calls Try.prog 85 #[.slice a ns.length cap, .int .i64 fl] w fun e w' => e = .returned (.bool (flB ns fl)) ∧ Below w.heap.size w w' := by
  have VN := iVN a cap ns _ h hn hcap
  have CW := fun W => iwithin fl 500 W
  unfold flB
  cases hv : vnB ns with
  | false =>
    rw [hv] at VN
    clear hv h
    go_enter Try.func85, Try.ntmps85
    go_wp2_with fail
    refine VN.mono ?_
    rintro e w1 ⟨rfl, C⟩
    go_wp2_with fail
    go_ret
    exact ⟨rfl, C⟩
  | true =>
    rw [hv] at VN
    obtain ⟨t, ht⟩ : ∃ t, (decide (0 ≤ fl) && decide (fl ≤ 500)) = t := ⟨_, rfl⟩
    rw [ht] at CW ⊢
    clear hv h ht
    go_enter Try.func85, Try.ntmps85
    go_wp2_with fail
    refine VN.mono ?_
    rintro e w1 ⟨rfl, C⟩
    go_wp2_with fail
    refine (CW _).mono ?_
    rintro e w' ⟨rfl, rfl⟩
    go_wp2_with fail
    go_ret
    exact ⟨by cases t <;> rfl, C⟩
end Go.Proofs.Ytfcgjiciobfncaa
namespace Go.Proofs.Ytfcgjiciobfncaa
set_option linter.unusedVariables false

/-- one unit more at the spring -/
theorem come_more {ns : List Nd} (hv : vnB ns = true) {fl : Int} (h0 : 0 ≤ fl) (h1 : fl + 1 ≤ 500) : ∀ j : Nat, j < ns.length → (comeF ns (fl + 1)).getD j 0 = (comeF ns fl).getD j 0 ∨ (comeF ns (fl + 1)).getD j 0 = (comeF ns fl).getD j 0 + 1 := by
  intro j
  induction j using Nat.strongRecOn with
  | ind j ih =>
    intro hj
    by_cases hz : j = 0
    · subst hz; rw [come_spring hv, come_spring hv]; exact .inr rfl
    · obtain ⟨p0, p1⟩ := vn_par hv hj (by omega)
      obtain ⟨k, hk⟩ : ∃ k : Nat, (ns.getD j nd0).1 = (k : Int) := ⟨(ns.getD j nd0).1.toNat, by omega⟩
      obtain ⟨i, hi, he⟩ := kid_pos hk hj
      have hkn : k < ns.length := by omega
      have a := come_kid hv (fl := fl) ⟨h0, by omega⟩ hkn hi
      have b := come_kid hv (fl := fl + 1) ⟨by omega, h1⟩ hkn hi
      rw [he, show ((j : Int)).toNat = j from by omega] at a b
      rw [a, b]
      by_cases hw : vwB (wts ns (k : Int)) = true
      · rw [if_pos hw, if_pos hw]
        obtain ⟨_, q2, q3, _⟩ := vn_at hv hkn
        have hc := come_bd hv (fl := fl) ⟨h0, by omega⟩ k
        have hcs := csB_pass hv hkn hc.1 hw
        have hpp : passV (ns.getD k nd0) ((comeF ns (fl + 1)).getD k 0) = passV (ns.getD k nd0) ((comeF ns fl).getD k 0) ∨ passV (ns.getD k nd0) ((comeF ns (fl + 1)).getD k 0) = passV (ns.getD k nd0) ((comeF ns fl).getD k 0) + 1 := by
          rcases ih k (by omega) hkn with e | e <;> rw [e]
          · exact .inl rfl
          · exact pass_more q3.1 q2.1
        rcases hpp with e | e <;> rw [e]
        · exact .inl rfl
        · obtain ⟨m, hm, hs⟩ := sa_more hcs (step := 2) (by omega)
          rw [hs, getD_setZ i _ (by rw [sa_len]; exact hm)]
          by_cases c : i = m
          · subst c; rw [if_pos rfl]; exact .inr rfl
          · rw [if_neg c]; exact .inl rfl
      · rw [if_neg hw, if_neg hw]; exact .inl rfl
theorem passF_more {ns : List Nd} (hv : vnB ns = true) {fl : Int} (h0 : 0 ≤ fl) (h1 : fl + 1 ≤ 500) {j : Nat} (hj : j < ns.length) : (passF ns (fl + 1)).getD j 0 = (passF ns fl).getD j 0 ∨ (passF ns (fl + 1)).getD j 0 = (passF ns fl).getD j 0 + 1 := by
  rw [passF_get _ _ hj, passF_get _ _ hj]
  obtain ⟨_, q2, q3, _⟩ := vn_at hv hj
  rcases come_more hv h0 h1 j hj with e | e <;> rw [e]
  · exact .inl rfl
  · exact pass_more q3.1 q2.1
theorem passF_mono {ns : List Nd} (hv : vnB ns = true) {fl : Int} (h0 : 0 ≤ fl) {j : Nat} (hj : j < ns.length) : ∀ d : Nat, fl + (d : Int) ≤ 500 → (passF ns fl).getD j 0 ≤ (passF ns (fl + (d : Int))).getD j 0 := by
  intro d
  induction d with
  | zero => intro _; rw [show fl + ((0 : Nat) : Int) = fl from by omega]; exact Int.le_refl _
  | succ d ih =>
    intro h
    have a := ih (by omega)
    have b := passF_more hv (fl := fl + (d : Int)) (by omega) (by omega) hj
    rw [show fl + ((d + 1 : Nat) : Int) = fl + (d : Int) + 1 from by omega]
    omega
theorem passF_le {ns : List Nd} (hv : vnB ns = true) {x y : Int} (h0 : 0 ≤ x) (hxy : x ≤ y) (hy : y ≤ 500) {j : Nat} (hj : j < ns.length) : (passF ns x).getD j 0 ≤ (passF ns y).getD j 0 := by
  have := passF_mono hv h0 hj (y - x).toNat (by omega)
  rw [show x + (((y - x).toNat : Nat) : Int) = y from by omega] at this
  exact this
/-- what comes to the kids of a node -/
def gotL (ns : List Nd) (fl : Int) (k : Int) : List Int := (kidsF ns k).map fun z => (comeF ns fl).getD z.toNat 0
theorem gotL_len (ns : List Nd) (fl : Int) (k : Int) : (gotL ns fl k).length = (kidsF ns k).length := by unfold gotL; rw [List.length_map]
theorem gotL_get (ns : List Nd) (fl : Int) (k : Int) {i : Nat} (h : i < (kidsF ns k).length) : (gotL ns fl k).getD i 0 = (comeF ns fl).getD ((kidsF ns k).getD i 0).toNat 0 := by
  have e : (kidsF ns k).getD i 0 = (kidsF ns k)[i] := by rw [List.getD_eq_getElem?_getD, List.getElem?_eq_getElem h]; rfl
  unfold gotL
  rw [e, List.getD_eq_getElem?_getD, List.getElem?_map, List.getElem?_eq_getElem h]; rfl
theorem sum_zeros : ∀ n : Nat, (List.replicate n (0 : Int)).sum = 0 := by
  intro n
  induction n with
  | zero => rfl
  | succ n ih => rw [List.replicate_succ, List.sum_cons, ih]; rfl
theorem got_sum {ns : List Nd} (hv : vnB ns = true) {fl : Int} (hf : 0 ≤ fl ∧ fl ≤ 500) {k : Nat} (hk : k < ns.length) : (gotL ns fl (k : Int)).sum = if vwB (wts ns (k : Int)) = true then (passF ns fl).getD k 0 else 0 := by
  by_cases hw : vwB (wts ns (k : Int)) = true
  · rw [if_pos hw]
    have hcs := csB_pass hv hk (come_bd hv hf k).1 hw
    have e : gotL ns fl (k : Int) = sa 2 (passV (ns.getD k nd0) ((comeF ns fl).getD k 0)) (wts ns (k : Int)) := by
      refine ext_z (by rw [gotL_len, sa_len]; unfold wts; rw [wk_len]) (fun i hi => ?_)
      rw [gotL_len] at hi
      rw [gotL_get ns fl _ hi, come_kid hv hf hk hi, if_pos hw]
    rw [e, (sa_facts hcs (step := 2) (by omega)).1, passF_get ns fl hk]
  · rw [if_neg hw]
    have e : gotL ns fl (k : Int) = List.replicate (kidsF ns (k : Int)).length 0 := by
      refine ext_z (by rw [gotL_len, List.length_replicate]) (fun i hi => ?_)
      rw [gotL_len] at hi
      rw [gotL_get ns fl _ hi, come_kid hv hf hk hi, if_neg hw, List.getD_eq_getElem?_getD, List.getElem?_replicate, if_pos hi]; rfl
    rw [e, sum_zeros]
/-- a node with kids, whose gates are all shut -/
def shB (ns : List Nd) (k : Int) : Bool := decide (0 < (kidsF ns k).length) && ((wts ns k).sum == 0)
/-- what is lost at a node -/
def lossAt (ns : List Nd) (fl : Int) (i : Nat) : Int := (comeF ns fl).getD i 0 - (passF ns fl).getD i 0 + if shB ns (i : Int) = true then (passF ns fl).getD i 0 else 0
def lostTo (ns : List Nd) (fl : Int) : Nat → Int
  | 0 => 0
  | k + 1 => lostTo ns fl k + lossAt ns fl k
theorem lostTo_succ (ns : List Nd) (fl : Int) (k : Nat) : lostTo ns fl (k + 1) = lostTo ns fl k + lossAt ns fl k := rfl
theorem loss_bd {ns : List Nd} (hv : vnB ns = true) {fl : Int} (hf : 0 ≤ fl ∧ fl ≤ 500) {i : Nat} (hi : i < ns.length) : 0 ≤ lossAt ns fl i ∧ lossAt ns fl i ≤ 500 := by
  have a := come_bd hv hf i
  have b := passF_bd hv hf hi
  unfold lossAt; split <;> omega
theorem lost_bd {ns : List Nd} (hv : vnB ns = true) {fl : Int} (hf : 0 ≤ fl ∧ fl ≤ 500) : ∀ k, k ≤ ns.length → 0 ≤ lostTo ns fl k ∧ lostTo ns fl k ≤ 500 * (k : Int) := by
  intro k
  induction k with
  | zero => intro _; exact ⟨Int.le_refl _, by show (0 : Int) ≤ 500 * ((0 : Nat) : Int); omega⟩
  | succ k ih =>
    intro hk
    have a := ih (by omega)
    have b := loss_bd hv hf (i := k) (by omega)
    rw [lostTo_succ]; omega
/-- what is lost at a node, as the model reckons it -/
theorem loss_got {ns : List Nd} (hv : vnB ns = true) {fl : Int} (hf : 0 ≤ fl ∧ fl ≤ 500) {k : Nat} (hk : k < ns.length) : lossAt ns fl k = (comeF ns fl).getD k 0 - (if (kidsF ns (k : Int)).length = 0 then (passF ns fl).getD k 0 else (gotL ns fl (k : Int)).sum) := by
  unfold lossAt shB
  rw [wts_zero hv]
  by_cases hz : (kidsF ns (k : Int)).length = 0
  · rw [if_pos hz, decide_eq_false (by omega)]
    show _ + (if (false && _) = true then _ else _) = _
    rw [Bool.false_and, if_neg (by simp)]; omega
  · rw [if_neg hz, decide_eq_true (by omega), got_sum hv hf hk]
    by_cases hw : vwB (wts ns (k : Int)) = true
    · rw [if_pos hw, hw]; show _ + (if (true && false) = true then _ else _) = _; rw [if_neg (by simp)]; omega
    · have : vwB (wts ns (k : Int)) = false := by simpa using hw
      rw [if_neg hw, this]; show _ + (if (true && true) = true then _ else _) = _; rw [if_pos (by simp)]; omega
def lostV (ns : List Nd) (fl : Int) : Int := if flB ns fl = true then lostTo ns fl ns.length else -1
theorem lost_no {ns : List Nd} {fl : Int} (h : flB ns fl = false) : lostV ns fl = -1 := by unfold lostV; rw [h]; rfl
theorem lost_yes {ns : List Nd} {fl : Int} (h : flB ns fl = true) : lostV ns fl = lostTo ns fl ns.length := by unfold lostV; rw [h]; rfl
/-- the least flow -/
def needF (ns : List Nd) (k : Nat) (am : Int) : Nat → Nat → Int
  | 0, _ => -1
  | m + 1, x => if am ≤ (passF ns (x : Int)).getD k 0 then (x : Int) else needF ns k am m (x + 1)
theorem need_at {ns : List Nd} {k : Nat} {am : Int} : ∀ (m x y : Nat), x ≤ y → y < x + m → (∀ j : Nat, x ≤ j → j < y → (passF ns (j : Int)).getD k 0 < am) → am ≤ (passF ns (y : Int)).getD k 0 → needF ns k am m x = (y : Int) := by
  intro m
  induction m with
  | zero => intro x y h1 h2 _ _; omega
  | succ m ih =>
    intro x y h1 h2 hb ha
    show (if am ≤ (passF ns (x : Int)).getD k 0 then (x : Int) else needF ns k am m (x + 1)) = _
    by_cases e : x = y
    · subst e; rw [if_pos ha]
    · have := hb x (Nat.le_refl _) (by omega)
      rw [if_neg (by omega)]
      exact ih (x + 1) y (by omega) (by omega) (fun j h3 h4 => hb j (by omega) h4) ha
theorem need_none {ns : List Nd} {k : Nat} {am : Int} : ∀ (m x : Nat), (∀ j : Nat, x ≤ j → j < x + m → (passF ns (j : Int)).getD k 0 < am) → needF ns k am m x = -1 := by
  intro m
  induction m with
  | zero => intro x _; rfl
  | succ m ih =>
    intro x hb
    show (if am ≤ (passF ns (x : Int)).getD k 0 then (x : Int) else needF ns k am m (x + 1)) = _
    have := hb x (Nat.le_refl _) (by omega)
    rw [if_neg (by omega)]
    exact ih (x + 1) (fun j h3 h4 => hb j (by omega) (by omega))
def needV (ns : List Nd) (at_ am : Int) : Int := if (vnB ns && inN ns.length at_) = true then needF ns at_.toNat am 501 0 else -1
theorem need_no {ns : List Nd} {at_ am : Int} (h : vnB ns = false ∨ inN ns.length at_ = false) : needV ns at_ am = -1 := by
  unfold needV; rw [if_neg]; rcases h with h | h <;> rw [h] <;> simp
theorem need_yes {ns : List Nd} {k : Nat} {am : Int} (h : vnB ns = true) (h2 : k < ns.length) : needV ns (k : Int) am = needF ns k am 501 0 := by
  unfold needV; rw [h, inN_is h2]; rfl
/-- what arrives -/
def avB (ns : List Nd) (at_ : Int) (fs : List Int) : Bool := (vnB ns && inN ns.length at_) && (decide (fs.length ≤ 200) && allB fs 500)
def arrAt (ns : List Nd) (k : Nat) (fs : List Int) (i : Nat) : Int := if (i : Int) < delayF ns (k : Int) then 0 else (passF ns (fs.getD (i - (delayF ns (k : Int)).toNat) 0)).getD k 0
def arrF (ns : List Nd) (k : Nat) (fs : List Int) : List Int := (List.range fs.length).map (arrAt ns k fs)
theorem arrF_len (ns : List Nd) (k : Nat) (fs : List Int) : (arrF ns k fs).length = fs.length := by unfold arrF; simp
theorem arrF_get (ns : List Nd) (k : Nat) (fs : List Int) {i : Nat} (h : i < fs.length) : (arrF ns k fs).getD i 0 = arrAt ns k fs i := by
  unfold arrF
  rw [List.getD_eq_getElem?_getD, List.getElem?_map, List.getElem?_range h]; rfl
def arriveV (ns : List Nd) (at_ : Int) (fs : List Int) : List Int := if avB ns at_ fs = true then arrF ns at_.toNat fs else []
theorem arrive_no {ns : List Nd} {at_ : Int} {fs : List Int} (h : avB ns at_ fs = false) : arriveV ns at_ fs = [] := by unfold arriveV; rw [h]; rfl
theorem arrive_yes {ns : List Nd} {k : Nat} {fs : List Int} (h : avB ns (k : Int) fs = true) : arriveV ns (k : Int) fs = arrF ns k fs := by unfold arriveV; rw [h]; rfl
theorem av_is {ns : List Nd} {at_ : Int} {fs : List Int} (h : avB ns at_ fs = true) : vnB ns = true ∧ inN ns.length at_ = true ∧ fs.length ≤ 200 ∧ allB fs 500 = true := by
  unfold avB at h; simp only [Bool.and_eq_true, decide_eq_true_eq] at h; exact ⟨h.1.1, h.1.2, h.2.1, h.2.2⟩
end Go.Proofs.Ytfcgjiciobfncaa
