/- Draws of customs. Condition: the bytes as they came in. -/
import Derived.Test.YtigapnbpgbfbhabCutRu
import Derived.Test.YtigapnbpgbfbhabGrA
import Derived.StillTailTactics
namespace Go.Proofs.Ytigapnbpgbfbhab
open Go.RowKit
set_option linter.unusedSimpArgs false
set_option linter.unusedVariables false
theorem valsRu_set1 (xs : List Ru) (k : Nat) (z : Int) (hk : k < xs.length) : (valsRu xs).set (k * 5 + 1) (.int .i64 z) = valsRu (xs.set k ((xs.getD k ru0).1, z, (xs.getD k ru0).2.2)) := by
  have e : (flatRu xs).set (k * 5 + 1) z = flatRu (xs.set k ((xs.getD k ru0).1, z, (xs.getD k ru0).2.2)) := by
    revert k
    induction xs with
    | nil => intro k h; simp at h
    | cons h t ih =>
      intro k hk
      cases k with
      | zero => rfl
      | succ k =>
        have := ih k (by simpa using hk)
        rw [show (k + 1) * 5 + 1 = k * 5 + 1 + 1 + 1 + 1 + 1 + 1 from by omega]
        show h.1 :: h.2.1 :: h.2.2.1 :: h.2.2.2.1 :: h.2.2.2.2 :: ((flatRu t).set (k * 5 + 1) z) = _
        rw [this]; rfl
  unfold valsRu
  rw [← e, List.map_set]
theorem valsRu_setA (xs : List Ru) (k : Nat) (a b c d e : Int) (hk : k < xs.length) : (((((valsRu xs).set (k * 5) (.int .i64 a)).set (k * 5 + 1) (.int .i64 b)).set (k * 5 + 2) (.int .i64 c)).set (k * 5 + 3) (.int .i64 d)).set (k * 5 + 4) (.int .i64 e) = valsRu (xs.set k (a, b, c, d, e)) := by
  have h : (((((flatRu xs).set (k * 5) a).set (k * 5 + 1) b).set (k * 5 + 2) c).set (k * 5 + 3) d).set (k * 5 + 4) e = flatRu (xs.set k (a, b, c, d, e)) := by
    revert k
    induction xs with
    | nil => intro k h; simp at h
    | cons h t ih =>
      intro k hk
      cases k with
      | zero => rfl
      | succ k =>
        have := ih k (by simpa using hk)
        rw [show (k + 1) * 5 = k * 5 + 1 + 1 + 1 + 1 + 1 from by omega, show k * 5 + 1 + 1 + 1 + 1 + 1 + 1 = k * 5 + 1 + 1 + 1 + 1 + 1 + 1 from rfl]
        show h.1 :: h.2.1 :: h.2.2.1 :: h.2.2.2.1 :: h.2.2.2.2 :: ((((((flatRu t).set (k * 5) a).set (k * 5 + 1) b).set (k * 5 + 2) c).set (k * 5 + 3) d).set (k * 5 + 4) e) = _
        rw [this]; rfl
  unfold valsRu
  rw [← h]; simp only [List.map_set]
/-- what someRules leaves -/
def SomeRu (w : World) (b : Nat) (P : Int) (e : Ending) (w' : World) : Prop := ∃ (v : Value) (xs : List Ru), e = .returned v ∧ xs.length ≤ 6 ∧ OwnRu w' w.heap.size v xs ∧ Rd w' b (P + 50) ∧ w.grownBy w' (some b)
theorem own_newRu {w W : World} (h : Below w.heap.size w W) : OwnRu (W.alloc (.cells #[] 46)) w.heap.size (.slice (some ⟨W.heap.size, 0, none⟩) 0 0) [] :=
  World.ownsRow_lit W #[] 0 h.size (by unfold maxLen; omega) rfl
set_option maxRecDepth 100000 in
set_option maxHeartbeats 8000000 in
theorem someRu (b : Nat) (P : Int) (w : World) (h : Rd w b P) (hP : P ≤ 80000) (hb : b < w.heap.size) :
    Calls Try.prog 60 #[.pointer (some ⟨b, 0, none⟩)] w (SomeRu w b P) := by
  obtain ⟨i0, hi, hz0, hz1, hz2⟩ := info_parts infoRu
  go_enter Try.func60, Try.ntmps60
  go_wp2_with fail
  have HO := Lib.hid (own_newRu (Below.refl w.heap.size w))
  have HR := Lib.hid (rd_alloc h hb (.cells #[] 46))
  have HG := Lib.hid (World.grownBy_alloc w (.cells #[] 46) (some b))
  clear h
  have hs : w.heap.size + 1 = (w.alloc (.cells #[] 46)).heap.size := by simp
  rw [hs]
  generalize w.alloc (.cells #[] 46) = w1 at *
  have hb1 : b < w1.heap.size := by omega
  refine (one_lit b 6 P 0 6 [3, 4, 2, 6, 1, 0] _ w1 HR.out (by omega) hb1 rfl (by omega) (by omega) (by simp)).mono ?_
  rintro e w6 ⟨m, rfl, m0, m1, hR6, hG6⟩
  have HO6 := Lib.hid (World.ownsRow.kept HO.out hG6 (.inr (by simp [Value.ownBlock]; omega)))
  have HR6 := Lib.hid (rd_up (P' := P + 1 + 7 * ((0 : Nat) : Int)) hR6 (by omega))
  have HG6 := Lib.hid (g_trans HG.out hG6)
  have hs7 : w.heap.size < w6.heap.size := by have := hG6.size; omega
  clear hG6 hR6 HO HR HG
  go_wp2_with fail
  go_loopw [3, 4] (fun v q wr => ∃ (k : Nat) (xs : List Ru), (k : Int) ≤ m ∧ q = .int .i64 (m - k) ∧ OwnRu wr w.heap.size v xs ∧ xs.length = k ∧ Rd wr b (P + 1 + 7 * (k : Int)) ∧ w.grownBy wr (some b) ∧ w.heap.size < wr.heap.size) (fun _ q _ => (intOf q).toNat)
  case atStart => exact ⟨0, [], by omega, by go_num, HO6.out, rfl, HR6.out, HG6.out, hs7⟩
  case round =>
    clear HO6 HR6 HG6
    obtain ⟨k, xs, hk, rfl, hown, hxl, hR, hG, hsz⟩ := hrel
    by_cases hlt : (k : Int) < m
    · obtain ⟨vb, vc, rfl, _⟩ := own_ru hown
      have HX := Lib.hid hxl
      have HO := Lib.hid hown
      have HG := Lib.hid hG
      have hxb : xs.length ≤ 6 := by omega
      have hbr : b < wr.heap.size := by omega
      clear hown hxl hG
      go_wp2_with fail
      refine (pick_any b _ 24 _ hR (by omega)).mono ?_
      rintro e w7 ⟨p, rfl, hp, hR7, hG7⟩
      have hb7 := Nat.lt_of_lt_of_le hbr hG7.size
      have s7 := hG7.size
      have hp2 : (p : Int) ≤ 23 := by omega
      clear hR hp
      go_wp2_with fail
      refine (one_lit b 4 _ 0 23 [0, 6, 20, (p : Int)] _ w7 hR7 (by omega) hb7 rfl (by omega) (by omega) (by simp; omega)).mono ?_
      rintro e w8 ⟨fr, rfl, fr0, fr1, hR8, hG8⟩
      have hb8 := Nat.lt_of_lt_of_le hb7 hG8.size
      have s8 := hG8.size
      have G8 := g_trans hG7 hG8
      clear hR7 hG7 hG8 hp2
      go_wp2_with fail
      refine (pick_any b _ 60 _ hR8 (by omega)).mono ?_
      rintro e w9 ⟨p2, rfl, hp, hR9, hG9⟩
      have hb9 := Nat.lt_of_lt_of_le hb8 hG9.size
      have s9 := hG9.size
      have G9 := g_trans G8 hG9
      have hp2 : (p2 : Int) ≤ 60 := by omega
      clear hR8 hG9 G8 hp
      go_wp2_with fail
      refine (one_lit b 4 _ 0 60 [0, 10, 50, (p2 : Int)] _ w9 hR9 (by omega) hb9 rfl (by omega) (by omega) (by simp; omega)).mono ?_
      rintro e w10 ⟨lo, rfl, lo0, lo1, hR10, hG10⟩
      have hb10 := Nat.lt_of_lt_of_le hb9 hG10.size
      have s10 := hG10.size
      have G10 := g_trans G9 hG10
      have wf : IntKind.i64.wrap (24 - fr) = 24 - fr := by rw [IntKind.wrap_i64]; omega
      clear hR9 hG10 G9 hp2
      go_wp2_with fail
      refine (pick_any b _ (24 - fr) _ hR10 (by omega)).mono ?_
      rintro e w11 ⟨t, rfl, hp, hR11, hG11⟩
      have hb11 := Nat.lt_of_lt_of_le hb10 hG11.size
      have s11 := hG11.size
      have G11 := g_trans G10 hG11
      have ht : (t : Int) ≤ 24 := by omega
      have wt : IntKind.i64.wrap (fr + (t : Int)) = fr + (t : Int) := by rw [IntKind.wrap_i64]; omega
      clear hR10 hG11 G10 hp
      go_wp2_with fail
      refine (one_lit b 4 _ 0 400 [5, 20, 0, 400] _ w11 hR11 (by omega) hb11 rfl (by omega) (by omega) (by simp)).mono ?_
      rintro e w12 ⟨hh, rfl, hh0, hh1, hR12, hG12⟩
      have hb12 := Nat.lt_of_lt_of_le hb11 hG12.size
      have s12 := hG12.size
      have G12 := g_trans G11 hG12
      have wh : IntKind.i64.wrap (lo + hh) = lo + hh := by rw [IntKind.wrap_i64]; omega
      clear hR11 hG12 G11
      go_wp2_with fail
      refine (pick_any b _ 6 _ hR12 (by omega)).mono ?_
      rintro e w13 ⟨vd, rfl, hp, hR13, hG13⟩
      have s13 := hG13.size
      have G13 := g_trans G12 hG13
      have hO13 : OwnRu w13 w.heap.size (.slice vb xs.length vc) xs := World.ownsRow.kept HO.out G13 (.inr (by intro h; have := (World.ownsRow.lt HO.out b h).1; omega))
      have HR13 := Lib.hid hR13
      have HG13 := Lib.hid (g_trans HG.out G13)
      have HO13 := Lib.hid hO13
      have hs13 : w.heap.size < w13.heap.size := by omega
      clear hR12 hG13 G12 G13 hR13 hO13 HO HG hp
      go_wp2_with (first | (at_builtin; refine wpList_append_own _ rfl (.tmp 25) (.tmp 42) _ rfl w.heap.size 46 i0 _ 5 40 Try.underlying34 hi hz0 hz1 hz2 rfl (by decide) _ _ _ rfl (World.ownsRow.alloc HO13.out _) ⟨w13.heap.size, 0, none⟩ 1 1 [.int .i64 fr, .int .i64 (fr + (t : Int)), .int .i64 lo, .int .i64 (lo + hh), .int .i64 (vd : Int)] rfl rfl (new_cells w13 _ _) (valsRu_one [(fr, fr + (t : Int), lo, lo + hh, (vd : Int))]) (by unfold maxLen; omega) (by omega) (by simp; omega) ?_; intro v' w14 hown' hgrow6 hnil6))
      have hB14 : Below w.heap.size w13 w14 := ((Below.refl _ w13).alloc (Nat.le_of_lt hs13) _).grown hgrow6 (by simp; omega) (fun q hq => (World.ownsRow.lt HO13.out q hq).1)
      clear hgrow6 hnil6
      obtain ⟨R14, G14⟩ := rd_end (P := P + 1 + 7 * ((k + 1 : Nat) : Int)) hb (rd_up (P' := P + 1 + 7 * ((k + 1 : Nat) : Int)) HR13.out (by omega)) rfl HG13.out hB14
      have hO14 : OwnRu w14 w.heap.size v' (xs ++ [(fr, fr + (t : Int), lo, lo + hh, (vd : Int))]) := by
        unfold OwnRu
        rw [List.length_append, valsRu_append]; exact hown'
      have HF : Hid (OwnRu w14 w.heap.size v' (xs ++ [(fr, fr + (t : Int), lo, lo + hh, (vd : Int))]) ∧ Rd w14 b (P + 1 + 7 * ((k + 1 : Nat) : Int)) ∧ w.grownBy w14 (some b) ∧ w.heap.size < w14.heap.size) := ⟨hO14, R14, G14, by have := hB14.size; omega⟩
      clear hown' hB14 R14 G14 hO14
      go_roundw
      case rel => exact ⟨k + 1, xs ++ [(fr, fr + (t : Int), lo, lo + hh, (vd : Int))], by omega, by go_num, HF.out.1, by rw [List.length_append, HX.out]; rfl, HF.out.2.1, HF.out.2.2.1, HF.out.2.2.2⟩
      case measure => simp [intOf]; omega
    · have hx6 : xs.length ≤ 6 := by omega
      obtain ⟨vb, vc, rfl, _⟩ := own_ru hown
      have HO := Lib.hid hown
      by_cases hz : xs.length = 0
      · have HF : Hid (OwnRu wr w.heap.size (.slice vb xs.length vc) xs ∧ Rd wr b (P + 50) ∧ w.grownBy wr (some b)) := ⟨HO.out, rd_up hR (by omega), hG⟩
        have e1 : decide (0 < (xs.length : Int)) = false := decide_eq_false (by omega)
        have e2 : decide (0 < xs.length) = false := decide_eq_false (by omega)
        clear HO hown hR hG hz hxl
        go_wp2_with fail
        go_ret
        exact ⟨_, xs, rfl, hx6, HF.out.1, HF.out.2.1, HF.out.2.2⟩
      · obtain ⟨gz, cp2, hform, hgz, ltg⟩ := World.ownsRow.form HO.out (by omega)
        injection hform with e1 e2 e3
        subst e1
        subst e3
        clear e2
        have e1 : decide (0 < (xs.length : Int)) = true := decide_eq_true (by omega)
        have e2 : decide (0 < xs.length) = true := decide_eq_true (by omega)
        have x0 : 0 < xs.length := by omega
        have x1 : (0 : Int) < (xs.length : Int) := by omega
        have hbr : b < wr.heap.size := by omega
        have HGG := Lib.hid hG
        clear hz hxl hown hG
        go_wp2_with fail
        refine (pick_any b _ 16 _ hR (by omega)).mono ?_
        rintro e w7 ⟨p, rfl, hp, hR7, hG7⟩
        have hb7 := Nat.lt_of_lt_of_le hbr hG7.size
        have HO7 : Hid (OwnRu w7 w.heap.size (.slice (some ⟨gz, 0, none⟩) xs.length vc) xs) := World.ownsRow.kept HO.out hG7 (.inr (by simp [Value.ownBlock]; omega))
        have G7 := Lib.hid (g_trans HGG.out hG7)
        clear hR hp hG7 HO HGG
        by_cases p0 : p = 0
        · subst p0
          go_wp2_with fail
          refine (one_lit b 2 _ (-1) 24 [24, -1] _ w7 hR7 (by omega) hb7 rfl (by omega) (by omega) (by simp)).mono ?_
          rintro e w8 ⟨z, rfl, z0, z1, hR8, hG8⟩
          have hO8 : OwnRu w8 w.heap.size (.slice (some ⟨gz, 0, none⟩) xs.length vc) xs := World.ownsRow.kept HO7.out hG8 (.inr (by simp [Value.ownBlock]; omega))
          have hc0 := World.ownsRow.cellAt hO8 (0 * 5 + 1) (by omega)
          rw [(valsRu_get (xs := xs) (k := 0) x0).2.1] at hc0
          have hf0 := World.ownsRow.frozenAt hO8 (0 * 5 + 1)
          have hS := (World.ownsRow.stored hO8 (0 * 5 + 1) (.int .i64 z)).1
          rw [valsRu_set1 xs 0 z x0] at hS
          rw [show 0 * 5 + 1 = 1 from rfl] at hc0 hf0 hS
          have hB : Below w.heap.size w8 (w8.setCell ⟨gz, 1, none⟩ (.int .i64 z)) := (Below.refl _ _).setCell (p := ⟨gz, 1, none⟩) hgz _
          have hfin := rd_end (P := P + 50) hb (rd_up (P' := P + 50) hR8 (by omega)) rfl (g_trans G7.out hG8) hB
          have HS := Lib.hid (And.intro hS hfin)
          generalize (xs.getD 0 ru0).2.1 = y0 at hc0
          clear hS hfin hB hO8 hG8 hR8 hR7
          go_wp2_with fail
          go_ret
          have hl2 : (xs.set 0 ((xs.getD 0 ru0).1, z, (xs.getD 0 ru0).2.2)).length = xs.length := List.length_set
          refine ⟨_, xs.set 0 ((xs.getD 0 ru0).1, z, (xs.getD 0 ru0).2.2), rfl, by rw [hl2]; exact hx6, ?_, HS.out.2.1, HS.out.2.2⟩
          unfold OwnRu
          rw [hl2]
          exact HS.out.1
        · have e4 : ((p : Int) == 0) = false := beq_eq_false_iff_ne.2 (by omega)
          have e5 : (p == 0) = false := beq_eq_false_iff_ne.2 p0
          have HF := Lib.hid (rd_up (P' := P + 50) hR7 (by omega))
          clear hR7 p0
          go_wp2_with fail
          go_ret
          exact ⟨_, xs, rfl, hx6, HO7.out, HF.out, G7.out⟩
def DrawnRu (w : World) (e : Ending) (w' : World) : Prop := ∃ (a : Option Addr) (cap : Nat) (xs : List Ru), e = .returned (.slice a xs.length cap) ∧ xs.length ≤ 6 ∧ xs.length ≤ cap ∧ IsRu w' a xs ∧ Below w.heap.size w w'
set_option maxRecDepth 100000 in
set_option maxHeartbeats 8000000 in
theorem drawVRu (a : Option Addr) (len cap : Nat) (zs : List Int) (w : World) (h : IsRow .u8 w a len cap zs) :
    Calls Try.prog 36 #[.slice a len cap] w (DrawnRu w) := by
  go_enter Try.func36, Try.ntmps36
  go_wp2_with fail
  refine (newReader_any a len cap zs _ h).mono ?_
  rintro e w1 ⟨rfl, hR1, hB1, hb1⟩
  clear h
  go_wp2_with fail
  refine (someRu w.heap.size _ _ hR1 (by omega) hb1).mono ?_
  rintro e w2 ⟨v, xs, rfl, l6, hO, hR2, hG2⟩
  have hb2 := Nat.lt_of_lt_of_le hb1 hG2.size
  have hB2 := below_grown hB1 hG2 (Nat.le_refl _)
  have hcp := own_capRu hO
  obtain ⟨b2, cp, rfl, hI⟩ := own_ru hO
  have hcp2 := hcp _ _ _ rfl
  clear hR1 hG2 hB1 hcp
  have HF := Lib.hid (And.intro hI hB2)
  clear hI hB2 hO hR2
  go_wp2_with fail
  go_ret
  exact ⟨b2, cp, xs, rfl, l6, hcp2, HF.out.1, HF.out.2⟩
def DrawnFR (w : World) (e : Ending) (w' : World) : Prop := ∃ (a : Option Addr) (cap : Nat) (xs : List Ru) (hh u : Int), e = .returned (.tuple #[.slice a xs.length cap, .int .i64 hh, .int .i64 u]) ∧ xs.length ≤ 6 ∧ xs.length ≤ cap ∧ IsRu w' a xs ∧ Below w.heap.size w w'
theorem ru_kept {w w' : World} {base b n c : Nat} {A : Option Addr} {xs : List Ru} (h : OwnRu w base (.slice A n c) xs) (hG : w.grownBy w' (some b)) (hb : b < base) : OwnRu w' base (.slice A n c) xs := World.ownsRow.kept h hG (.inr (by intro e; have := (World.ownsRow.lt h b e).1; omega))
set_option maxRecDepth 100000 in
set_option maxHeartbeats 8000000 in
theorem drawFR (a : Option Addr) (len cap : Nat) (zs : List Int) (w : World) (h : IsRow .u8 w a len cap zs) :
    Calls Try.prog 37 #[.slice a len cap] w (DrawnFR w) := by
  go_enter Try.func37, Try.ntmps37
  go_wp2_with fail
  refine (newReader_any a len cap zs _ h).mono ?_
  rintro e w1 ⟨rfl, hR1, hB1, hb1⟩
  clear h
  go_wp2_with fail
  refine (someRu w.heap.size _ _ hR1 (by omega) hb1).mono ?_
  rintro e w2 ⟨v, xs, rfl, l6, hO, hR2, hG2⟩
  have hb2 := Nat.lt_of_lt_of_le hb1 hG2.size
  have hB2 := below_grown hB1 hG2 (Nat.le_refl _)
  have hcp := own_capRu hO
  obtain ⟨b2, cp, rfl, hI⟩ := own_ru hO
  have hcp2 := hcp _ _ _ rfl
  clear hR1 hG2 hB1 hcp
  clear hI
  go_wp2_with fail
  refine (pick_any w.heap.size _ 24 _ hR2 (by omega)).mono ?_
  rintro e w3 ⟨p, rfl, hp, hR3, hG3⟩
  have hb3 := Nat.lt_of_lt_of_le hb2 hG3.size
  have hB3 := below_grown hB2 hG3 (Nat.le_refl _)
  have hO3 := ru_kept hO hG3 hb1
  have hp2 : (p : Int) ≤ 24 := by omega
  clear hR2 hG3 hB2 hO hp
  go_wp2_with fail
  refine (one_lit w.heap.size 6 _ (-1) 24 [(p : Int), 6, 20, 0, 24, -1] _ w3 hR3 (by omega) hb3 rfl (by omega) (by omega) (by simp; omega)).mono ?_
  rintro e w4 ⟨hh, rfl, h0, h1, hR4, hG4⟩
  have hb4 := Nat.lt_of_lt_of_le hb3 hG4.size
  have hB4 := below_grown hB3 hG4 (Nat.le_refl _)
  have hO4 := ru_kept hO3 hG4 hb1
  clear hR3 hG4 hB3 hO3 hp2
  go_wp2_with fail
  refine (pick_any w.heap.size _ 70 _ hR4 (by omega)).mono ?_
  rintro e w5 ⟨p2, rfl, hp, hR5, hG5⟩
  have hb5 := Nat.lt_of_lt_of_le hb4 hG5.size
  have hB5 := below_grown hB4 hG5 (Nat.le_refl _)
  have hO5 := ru_kept hO4 hG5 hb1
  have hp2 : (p2 : Int) ≤ 70 := by omega
  clear hR4 hG5 hB4 hO4 hp
  go_wp2_with fail
  refine (one_lit w.heap.size 6 _ 0 501 [(p2 : Int), 10, 50, 0, 500, 501] _ w5 hR5 (by omega) hb5 rfl (by omega) (by omega) (by simp; omega)).mono ?_
  rintro e w6 ⟨u, rfl, u0, u1, hR6, hG6⟩
  have hB6 := below_grown hB5 hG6 (Nat.le_refl _)
  have hO6 := ru_kept hO5 hG6 hb1
  obtain ⟨b3, c3, hv, hI⟩ := own_ru hO6
  injection hv with e1 e2 e3
  subst e1
  subst e3
  clear e2
  have HF := Lib.hid (And.intro hI hB6)
  clear hI hB6 hO6 hR6 hR5 hG6 hB5 hO5 hp2
  go_wp2_with fail
  go_returns
  exact ⟨b2, cp, xs, hh, u, rfl, l6, hcp2, HF.out.1, HF.out.2⟩
set_option maxRecDepth 100000 in
set_option maxHeartbeats 8000000 in
theorem drawVd (a : Option Addr) (len cap : Nat) (zs : List Int) (w : World) (h : IsRow .u8 w a len cap zs) :
    Calls Try.prog 38 #[.slice a len cap] w (DrawnFR w) := by
  have CD := drawFR a len cap zs w h
  clear h
  go_enter Try.func38, Try.ntmps38
  go_wp2_with fail
  refine CD.mono ?_
  rintro e w1 ⟨b, cp, xs, hh, u, rfl, H⟩
  have HH := Lib.hid H
  clear H CD
  go_wp2_with fail
  go_returns
  exact ⟨b, cp, xs, hh, u, rfl, HH.out⟩
end Go.Proofs.Ytigapnbpgbfbhab
