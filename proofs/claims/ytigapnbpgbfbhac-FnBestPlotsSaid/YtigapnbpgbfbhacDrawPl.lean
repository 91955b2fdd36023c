/- Draws of plots. Condition: the bytes as they came in. -/
import Derived.Test.YtigapnbpgbfbhacCutPl
import Derived.Test.YtigapnbpgbfbhacGrA
import Derived.StillTailTactics
namespace Go.Proofs.Ytigapnbpgbfbhac
open Go.RowKit
set_option linter.unusedSimpArgs false
set_option linter.unusedVariables false
theorem valsPl_set1 (xs : List Pl) (k : Nat) (z : Int) (hk : k < xs.length) : (valsPl xs).set (k * 2 + 1) (.int .i64 z) = valsPl (xs.set k ((xs.getD k pl0).1, z)) := by
  have e : (flatPl xs).set (k * 2 + 1) z = flatPl (xs.set k ((xs.getD k pl0).1, z)) := by
    revert k
    induction xs with
    | nil => intro k h; simp at h
    | cons h t ih =>
      intro k hk
      cases k with
      | zero => rfl
      | succ k =>
        have := ih k (by simpa using hk)
        rw [show (k + 1) * 2 + 1 = k * 2 + 1 + 1 + 1 from by omega]
        show h.1 :: h.2 :: ((flatPl t).set (k * 2 + 1) z) = _
        rw [this]; rfl
  unfold valsPl
  rw [← e, List.map_set]
/-- what somePlots leaves -/
def SomePl (w : World) (b : Nat) (P : Int) (e : Ending) (w' : World) : Prop := ∃ (v : Value) (xs : List Pl), e = .returned v ∧ xs.length ≤ 10 ∧ OwnPl w' w.heap.size v xs ∧ Rd w' b (P + 60) ∧ w.grownBy w' (some b)
theorem own_newPl {w W : World} (h : Below w.heap.size w W) : OwnPl (W.alloc (.cells #[] 45)) w.heap.size (.slice (some ⟨W.heap.size, 0, none⟩) 0 0) [] :=
  World.ownsRow_lit W #[] 0 h.size (by unfold maxLen; omega) rfl
set_option maxRecDepth 100000 in
set_option maxHeartbeats 8000000 in
theorem somePl (b : Nat) (P : Int) (w : World) (h : Rd w b P) (hP : P ≤ 80000) (hb : b < w.heap.size) :
    Calls Try.prog 49 #[.pointer (some ⟨b, 0, none⟩)] w (SomePl w b P) := by
  obtain ⟨i0, hi, hz0, hz1, hz2⟩ := info_parts infoPl
  go_enter Try.func49, Try.ntmps49
  go_wp2_with fail
  have HO := Lib.hid (own_newPl (Below.refl w.heap.size w))
  have HR := Lib.hid (rd_alloc h hb (.cells #[] 45))
  have HG := Lib.hid (World.grownBy_alloc w (.cells #[] 45) (some b))
  clear h
  have hs : w.heap.size + 1 = (w.alloc (.cells #[] 45)).heap.size := by simp
  rw [hs]
  generalize w.alloc (.cells #[] 45) = w1 at *
  have hb1 : b < w1.heap.size := by omega
  refine (one_lit b 7 P 0 10 [4, 5, 3, 7, 1, 0, 10] _ w1 HR.out (by omega) hb1 rfl (by omega) (by omega) (by simp)).mono ?_
  rintro e w6 ⟨m, rfl, m0, m1, hR6, hG6⟩
  have HO6 := Lib.hid (World.ownsRow.kept HO.out hG6 (.inr (by simp [Value.ownBlock]; omega)))
  have HR6 := Lib.hid (rd_up (P' := P + 1 + 4 * ((0 : Nat) : Int)) hR6 (by omega))
  have HG6 := Lib.hid (g_trans HG.out hG6)
  have hs7 : w.heap.size < w6.heap.size := by have := hG6.size; omega
  clear hG6 hR6 HO HR HG
  go_wp2_with fail
  go_loopw [3, 4] (fun v q wr => ∃ (k : Nat) (xs : List Pl), (k : Int) ≤ m ∧ q = .int .i64 (m - k) ∧ OwnPl wr w.heap.size v xs ∧ xs.length = k ∧ Rd wr b (P + 1 + 4 * (k : Int)) ∧ w.grownBy wr (some b) ∧ w.heap.size < wr.heap.size) (fun _ q _ => (intOf q).toNat)
  case atStart => exact ⟨0, [], by omega, by go_num, HO6.out, rfl, HR6.out, HG6.out, hs7⟩
  case round =>
    clear HO6 HR6 HG6
    obtain ⟨k, xs, hk, rfl, hown, hxl, hR, hG, hsz⟩ := hrel
    by_cases hlt : (k : Int) < m
    · obtain ⟨vb, vc, rfl, _⟩ := own_pl hown
      have HX := Lib.hid hxl
      have HO := Lib.hid hown
      have HG := Lib.hid hG
      have hxb : xs.length ≤ 10 := by omega
      have hbr : b < wr.heap.size := by omega
      clear hown hxl hG
      go_wp2_with fail
      refine (pick_any b _ 30 _ hR (by omega)).mono ?_
      rintro e w7 ⟨p, rfl, hp, hR7, hG7⟩
      have hb7 := Nat.lt_of_lt_of_le hbr hG7.size
      have s7 := hG7.size
      have hp2 : (p : Int) ≤ 29 := by omega
      have wp1 : IntKind.i64.wrap (1 + (p : Int)) = 1 + (p : Int) := by rw [IntKind.wrap_i64]; omega
      clear hR hp
      go_wp2_with fail
      refine (one_lit b 5 _ 0 30 [5, 10, 3, 1 + (p : Int), 0] _ w7 hR7 (by omega) hb7 rfl (by omega) (by omega) (by simp; omega)).mono ?_
      rintro e w8 ⟨nd, rfl, fr0, fr1, hR8, hG8⟩
      have hb8 := Nat.lt_of_lt_of_le hb7 hG8.size
      have s8 := hG8.size
      have G8 := g_trans hG7 hG8
      clear hR7 hG7 hG8 hp2
      go_wp2_with fail
      refine (pick_any b _ 60 _ hR8 (by omega)).mono ?_
      rintro e w9 ⟨p2, rfl, hp, hR9, hG9⟩
      have hb9 := Nat.lt_of_lt_of_le hb8 hG9.size
      have s9 := hG9.size
      have G9 := g_trans G8 hG9
      have hp2 : (p2 : Int) ≤ 59 := by omega
      have wp2 : IntKind.i64.wrap (1 + (p2 : Int)) = 1 + (p2 : Int) := by rw [IntKind.wrap_i64]; omega
      clear hR8 hG9 G8 hp
      go_wp2_with fail
      refine (one_lit b 4 _ 0 60 [10, 20, 7, 1 + (p2 : Int)] _ w9 hR9 (by omega) hb9 rfl (by omega) (by omega) (by simp; omega)).mono ?_
      rintro e w13 ⟨yd, rfl, lo0, lo1, hR13, hG13⟩
      have s13 := hG13.size
      have G13 := g_trans G9 hG13
      have hO13 : OwnPl w13 w.heap.size (.slice vb xs.length vc) xs := World.ownsRow.kept HO.out G13 (.inr (by intro h; have := (World.ownsRow.lt HO.out b h).1; omega))
      have HR13 := Lib.hid hR13
      have HG13 := Lib.hid (g_trans HG.out G13)
      have HO13 := Lib.hid hO13
      have hs13 : w.heap.size < w13.heap.size := by omega
      clear hR9 hG13 G9 G13 hR13 hO13 HO HG hp2
      go_wp2_with (first | (at_builtin; refine wpList_append_own _ rfl (.tmp 13) (.tmp 27) _ rfl w.heap.size 45 i0 _ 2 16 Try.underlying25 hi hz0 hz1 hz2 rfl (by decide) _ _ _ rfl (World.ownsRow.alloc HO13.out _) ⟨w13.heap.size, 0, none⟩ 1 1 [.int .i64 nd, .int .i64 yd] rfl rfl (new_cells w13 _ _) (valsPl_one [(nd, yd)]) (by unfold maxLen; omega) (by omega) (by simp; omega) ?_; intro v' w14 hown' hgrow6 hnil6))
      have hB14 : Below w.heap.size w13 w14 := ((Below.refl _ w13).alloc (Nat.le_of_lt hs13) _).grown hgrow6 (by simp; omega) (fun q hq => (World.ownsRow.lt HO13.out q hq).1)
      clear hgrow6 hnil6
      obtain ⟨R14, G14⟩ := rd_end (P := P + 1 + 4 * ((k + 1 : Nat) : Int)) hb (rd_up (P' := P + 1 + 4 * ((k + 1 : Nat) : Int)) HR13.out (by omega)) rfl HG13.out hB14
      have hO14 : OwnPl w14 w.heap.size v' (xs ++ [(nd, yd)]) := by
        unfold OwnPl
        rw [List.length_append, valsPl_append]; exact hown'
      have HF : Hid (OwnPl w14 w.heap.size v' (xs ++ [(nd, yd)]) ∧ Rd w14 b (P + 1 + 4 * ((k + 1 : Nat) : Int)) ∧ w.grownBy w14 (some b) ∧ w.heap.size < w14.heap.size) := ⟨hO14, R14, G14, by have := hB14.size; omega⟩
      clear hown' hB14 R14 G14 hO14
      go_roundw
      case rel => exact ⟨k + 1, xs ++ [(nd, yd)], by omega, by go_num, HF.out.1, by rw [List.length_append, HX.out]; rfl, HF.out.2.1, HF.out.2.2.1, HF.out.2.2.2⟩
      case measure => simp [intOf]; omega
    · have hx6 : xs.length ≤ 10 := by omega
      obtain ⟨vb, vc, rfl, _⟩ := own_pl hown
      have HO := Lib.hid hown
      by_cases hz : xs.length = 0
      · have HF : Hid (OwnPl wr w.heap.size (.slice vb xs.length vc) xs ∧ Rd wr b (P + 60) ∧ w.grownBy wr (some b)) := ⟨HO.out, rd_up hR (by omega), hG⟩
        have e1 : decide (0 < (xs.length : Int)) = false := decide_eq_false (by omega)
        have e2 : decide (0 < xs.length) = false := decide_eq_false (by omega)
        clear HO hown hR hG hz hxl
        go_wp2_with fail
        go_ret
        exact ⟨_, xs, rfl, hx6, HF.out.1, HF.out.2.1, HF.out.2.2⟩
      · obtain ⟨gz, cp2, hform, hgz, ltg⟩ := World.ownsRow.form HO.out (by omega)
        injection hform with e1 e2 e3
        subst e1
        subst e3
        clear e2
        have e1 : decide (0 < (xs.length : Int)) = true := decide_eq_true (by omega)
        have e2 : decide (0 < xs.length) = true := decide_eq_true (by omega)
        have x0 : 0 < xs.length := by omega
        have x1 : (0 : Int) < (xs.length : Int) := by omega
        have hbr : b < wr.heap.size := by omega
        have HGG := Lib.hid hG
        clear hz hxl hown hG
        go_wp2_with fail
        refine (pick_any b _ 16 _ hR (by omega)).mono ?_
        rintro e w7 ⟨p, rfl, hp, hR7, hG7⟩
        have hb7 := Nat.lt_of_lt_of_le hbr hG7.size
        have HO7 : Hid (OwnPl w7 w.heap.size (.slice (some ⟨gz, 0, none⟩) xs.length vc) xs) := World.ownsRow.kept HO.out hG7 (.inr (by simp [Value.ownBlock]; omega))
        have G7 := Lib.hid (g_trans HGG.out hG7)
        clear hR hp hG7 HO HGG
        by_cases p0 : p = 0
        · subst p0
          go_wp2_with fail
          refine (one_lit b 2 _ 0 1001 [0, 1001] _ w7 hR7 (by omega) hb7 rfl (by omega) (by omega) (by simp)).mono ?_
          rintro e w8 ⟨z, rfl, z0, z1, hR8, hG8⟩
          have hO8 : OwnPl w8 w.heap.size (.slice (some ⟨gz, 0, none⟩) xs.length vc) xs := World.ownsRow.kept HO7.out hG8 (.inr (by simp [Value.ownBlock]; omega))
          have hc0 := World.ownsRow.cellAt hO8 (0 * 2 + 1) (by omega)
          rw [(valsPl_get (xs := xs) (k := 0) x0).2] at hc0
          have hf0 := World.ownsRow.frozenAt hO8 (0 * 2 + 1)
          have hS := (World.ownsRow.stored hO8 (0 * 2 + 1) (.int .i64 z)).1
          rw [valsPl_set1 xs 0 z x0] at hS
          rw [show 0 * 2 + 1 = 1 from rfl] at hc0 hf0 hS
          have hB : Below w.heap.size w8 (w8.setCell ⟨gz, 1, none⟩ (.int .i64 z)) := (Below.refl _ _).setCell (p := ⟨gz, 1, none⟩) hgz _
          have hfin := rd_end (P := P + 60) hb (rd_up (P' := P + 60) hR8 (by omega)) rfl (g_trans G7.out hG8) hB
          have HS := Lib.hid (And.intro hS hfin)
          generalize (xs.getD 0 pl0).2 = y0 at hc0
          clear hS hfin hB hO8 hG8 hR8 hR7
          go_wp2_with fail
          go_ret
          have hl2 : (xs.set 0 ((xs.getD 0 pl0).1, z)).length = xs.length := List.length_set
          refine ⟨_, xs.set 0 ((xs.getD 0 pl0).1, z), rfl, by rw [hl2]; exact hx6, ?_, HS.out.2.1, HS.out.2.2⟩
          unfold OwnPl
          rw [hl2]
          exact HS.out.1
        · have e4 : ((p : Int) == 0) = false := beq_eq_false_iff_ne.2 (by omega)
          have e5 : (p == 0) = false := beq_eq_false_iff_ne.2 p0
          have HF := Lib.hid (rd_up (P' := P + 60) hR7 (by omega))
          clear hR7 p0
          go_wp2_with fail
          go_ret
          exact ⟨_, xs, rfl, hx6, HO7.out, HF.out, G7.out⟩
def DrawnPl (w : World) (e : Ending) (w' : World) : Prop := ∃ (a : Option Addr) (cap : Nat) (xs : List Pl), e = .returned (.slice a xs.length cap) ∧ xs.length ≤ 10 ∧ xs.length ≤ cap ∧ IsPl w' a xs ∧ Below w.heap.size w w'
set_option maxRecDepth 100000 in
set_option maxHeartbeats 8000000 in
theorem drawVPl (a : Option Addr) (len cap : Nat) (zs : List Int) (w : World) (h : IsRow .u8 w a len cap zs) :
    Calls Try.prog 28 #[.slice a len cap] w (DrawnPl w) := by
  go_enter Try.func28, Try.ntmps28
  go_wp2_with fail
  refine (newReader_any a len cap zs _ h).mono ?_
  rintro e w1 ⟨rfl, hR1, hB1, hb1⟩
  clear h
  go_wp2_with fail
  refine (somePl w.heap.size _ _ hR1 (by omega) hb1).mono ?_
  rintro e w2 ⟨v, xs, rfl, l6, hO, hR2, hG2⟩
  have hb2 := Nat.lt_of_lt_of_le hb1 hG2.size
  have hB2 := below_grown hB1 hG2 (Nat.le_refl _)
  have hcp := own_capPl hO
  obtain ⟨b2, cp, rfl, hI⟩ := own_pl hO
  have hcp2 := hcp _ _ _ rfl
  clear hR1 hG2 hB1 hcp
  have HF := Lib.hid (And.intro hI hB2)
  clear hI hB2 hO hR2
  go_wp2_with fail
  go_ret
  exact ⟨b2, cp, xs, rfl, l6, hcp2, HF.out.1, HF.out.2⟩
def DrawnBY (w : World) (e : Ending) (w' : World) : Prop := ∃ (a : Option Addr) (cap : Nat) (xs : List Pl) (u : Int), e = .returned (.tuple #[.slice a xs.length cap, .int .i64 u]) ∧ (-1 ≤ u ∧ u ≤ 501) ∧ xs.length ≤ 10 ∧ xs.length ≤ cap ∧ IsPl w' a xs ∧ Below w.heap.size w w'
theorem pl_kept {w w' : World} {base b n c : Nat} {A : Option Addr} {xs : List Pl} (h : OwnPl w base (.slice A n c) xs) (hG : w.grownBy w' (some b)) (hb : b < base) : OwnPl w' base (.slice A n c) xs := World.ownsRow.kept h hG (.inr (by intro e; have := (World.ownsRow.lt h b e).1; omega))
set_option maxRecDepth 100000 in
set_option maxHeartbeats 8000000 in
theorem drawBY (a : Option Addr) (len cap : Nat) (zs : List Int) (w : World) (h : IsRow .u8 w a len cap zs) :
    Calls Try.prog 29 #[.slice a len cap] w (DrawnBY w) := by
  go_enter Try.func29, Try.ntmps29
  go_wp2_with fail
  refine (newReader_any a len cap zs _ h).mono ?_
  rintro e w1 ⟨rfl, hR1, hB1, hb1⟩
  clear h
  go_wp2_with fail
  refine (somePl w.heap.size _ _ hR1 (by omega) hb1).mono ?_
  rintro e w2 ⟨v, xs, rfl, l6, hO, hR2, hG2⟩
  have hb2 := Nat.lt_of_lt_of_le hb1 hG2.size
  have hB2 := below_grown hB1 hG2 (Nat.le_refl _)
  have hcp := own_capPl hO
  obtain ⟨b2, cp, rfl, hI⟩ := own_pl hO
  have hcp2 := hcp _ _ _ rfl
  clear hR1 hG2 hB1 hcp
  clear hI
  go_wp2_with fail
  refine (one_lit w.heap.size 8 _ (-1) 501 [20, 30, 15, 50, 0, 500, 501, -1] _ w2 hR2 (by omega) hb2 rfl (by omega) (by omega) (by simp)).mono ?_
  rintro e w6 ⟨u, rfl, u0, u1, hR6, hG6⟩
  have hB6 := below_grown hB2 hG6 (Nat.le_refl _)
  have hO6 := pl_kept hO hG6 hb1
  obtain ⟨b3, c3, hv, hI⟩ := own_pl hO6
  injection hv with e1 e2 e3
  subst e1
  subst e3
  clear e2
  have HF := Lib.hid (And.intro hI hB6)
  clear hI hB6 hO6 hR6 hR2 hG6 hB2 hO
  go_wp2_with fail
  go_returns
  exact ⟨b2, cp, xs, u, rfl, ⟨u0, u1⟩, l6, hcp2, HF.out.1, HF.out.2⟩
set_option maxRecDepth 100000 in
set_option maxHeartbeats 8000000 in
theorem drawBP (a : Option Addr) (len cap : Nat) (zs : List Int) (w : World) (h : IsRow .u8 w a len cap zs) :
    Calls Try.prog 30 #[.slice a len cap] w (DrawnBY w) := by
  have CD := drawBY a len cap zs w h
  clear h
  go_enter Try.func30, Try.ntmps30
  go_wp2_with fail
  refine CD.mono ?_
  rintro e w1 ⟨b, cp, xs, u, rfl, H⟩
  have HH := Lib.hid H
  clear H CD
  go_wp2_with fail
  go_returns
  exact ⟨b, cp, xs, u, rfl, HH.out⟩
def DrawnPN (w : World) (e : Ending) (w' : World) : Prop := ∃ (a : Option Addr) (cap : Nat) (xs : List Pl) (b : Option Addr) (cb : Nat) (ks : List Int), e = .returned (.tuple #[.slice a xs.length cap, .slice b ks.length cb]) ∧ xs.length ≤ 10 ∧ xs.length ≤ cap ∧ IsPl w' a xs ∧ ks.length ≤ 11 ∧ ks.length ≤ cb ∧ IsInts w' b ks ∧ Below w.heap.size w w'
theorem own_capP {w : World} {base n c : Nat} {b : Option Addr} {zs : List Int} (h : OwnI w base (.slice b n c) zs) : n ≤ c := by
  rcases h.2 with ⟨hv, hn⟩ | ⟨g', cap', cur, hv, hg, hb, hc, _⟩
  · injection hv with e1 e2 e3; omega
  · injection hv with e1 e2 e3; omega
set_option maxRecDepth 100000 in
set_option maxHeartbeats 8000000 in
theorem drawPN (a : Option Addr) (len cap : Nat) (zs : List Int) (w : World) (h : IsRow .u8 w a len cap zs) :
    Calls Try.prog 34 #[.slice a len cap] w (DrawnPN w) := by
  go_enter Try.func34, Try.ntmps34
  go_wp2_with fail
  refine (newReader_any a len cap zs _ h).mono ?_
  rintro e w1 ⟨rfl, hR1, hB1, hb1⟩
  clear h
  go_wp2_with fail
  refine (somePl w.heap.size _ _ hR1 (by omega) hb1).mono ?_
  rintro e w2 ⟨v, xs, rfl, l6, hO, hR2, hG2⟩
  have hb2 := Nat.lt_of_lt_of_le hb1 hG2.size
  have hB2 := below_grown hB1 hG2 (Nat.le_refl _)
  have hcp := own_capPl hO
  obtain ⟨b2, cp, rfl, hI⟩ := own_pl hO
  have hcp2 := hcp _ _ _ rfl
  clear hR1 hG2 hB1 hcp
  clear hI
  obtain ⟨i0, hi0, hz0, hz1, hz2⟩ := info_parts infoInt
  have HOL := Lib.hid hO
  have HB2 := Lib.hid hB2
  have HO0 := Lib.hid (OwnI.new (Below.refl w2.heap.size w2))
  have HR0 := Lib.hid (rd_alloc hR2 hb2 (.cells #[] 3))
  have HG0 := Lib.hid (World.grownBy_alloc w2 (.cells #[] 3) (some w.heap.size))
  have hs0 : w2.heap.size < (w2.alloc (.cells #[] 3)).heap.size := by simp
  clear hO hB2 hR2
  go_wp2_with fail
  go_loopw [6, 7] (fun v i wr => ∃ (k : Nat) (ks : List Int), k ≤ xs.length ∧ i = .int .i64 k ∧ OwnI wr w2.heap.size v ks ∧ ks.length ≤ k ∧ Rd wr w.heap.size (0 + 60 + (k : Int)) ∧ w2.grownBy wr (some w.heap.size) ∧ w2.heap.size < wr.heap.size) (fun _ i _ => xs.length - (intOf i).toNat)
  case atStart => exact ⟨0, [], Nat.zero_le _, rfl, HO0.out, Nat.le_refl _, rd_up HR0.out (by omega), HG0.out, hs0⟩
  case round =>
    clear HO0 HR0 HG0 hs0
    obtain ⟨k, ks, hk, rfl, hO, hkl, hR, hG, hsz⟩ := hrel
    obtain ⟨vb, vc, rfl, _⟩ := OwnI.ints hO
    have hbr : w.heap.size < wr.heap.size := by omega
    by_cases hlt : k < xs.length
    · have HO := Lib.hid hO
      have HG := Lib.hid hG
      clear hO hG
      go_wp2_with fail
      refine (pick_any w.heap.size _ 2 _ hR (by omega)).mono ?_
      rintro e w7 ⟨p, rfl, hp, hR7, hG7⟩
      have s7 := hG7.size
      have hO7 : OwnI w7 w2.heap.size (.slice vb ks.length vc) ks := World.ownsRow.kept HO.out hG7 (.inr (by intro h; have := (World.ownsRow.lt HO.out w.heap.size h).1; omega))
      have HR7 := Lib.hid hR7
      have HG7 := Lib.hid (g_trans HG.out hG7)
      have hs7 : w2.heap.size < w7.heap.size := by omega
      clear hR hG7 HO HG hR7 hp
      by_cases p0 : p = 0
      · subst p0
        have HO7 := Lib.hid hO7
        clear hO7
        go_wp2_with (first | (at_builtin; refine wpList_append_own _ rfl (.tmp 22) (.tmp 24) _ rfl w2.heap.size 3 i0 (.int .i64 0) 1 8 Try.underlying31 hi0 hz0 hz1 hz2 rfl (by decide) _ _ _ rfl (World.ownsRow.alloc HO7.out _) ⟨w7.heap.size, 0, none⟩ 1 1 [.int .i64 (k : Int)] rfl rfl (cell_one_new _ _ _) (fun x hx => by simp at hx; subst hx; rfl) (by unfold maxLen; omega) (by omega) (by simp; omega) ?_; intro v3 w3 hown3 hgrow3 hnil3))
        have hB14 : Below w2.heap.size w7 w3 := ((Below.refl _ w7).alloc (Nat.le_of_lt hs7) _).grown hgrow3 (by simp; omega) (fun q hq => (World.ownsRow.lt HO7.out q hq).1)
        have hfin := rd_end (P := 0 + 60 + ((k + 1 : Nat) : Int)) hb2 (rd_up (P' := 0 + 60 + ((k + 1 : Nat) : Int)) HR7.out (by omega)) rfl HG7.out hB14
        have HX := Lib.hid (And.intro (OwnI.snoc hown3) (And.intro hfin (show w2.heap.size < w3.heap.size from by have := hB14.size; omega)))
        clear hgrow3 hnil3 hown3 hB14 hfin
        go_roundw
        case rel => exact ⟨k + 1, ks ++ [(k : Int)], by omega, by go_num, HX.out.1, by rw [List.length_append]; show _ + 1 ≤ _; omega, HX.out.2.1.1, HX.out.2.1.2, HX.out.2.2⟩
        case measure => simp [intOf]; omega
      · have e4 : ((p : Int) == 0) = false := beq_eq_false_iff_ne.2 (by omega)
        have e5 : (p == 0) = false := beq_eq_false_iff_ne.2 p0
        have HO7 := Lib.hid hO7
        clear hO7 p0
        go_wp2_with fail
        go_roundw
        case rel => exact ⟨k + 1, ks, by omega, by go_num, HO7.out, by omega, rd_up HR7.out (by omega), HG7.out, hs7⟩
        case measure => simp [intOf]; omega
    · have hkk : ks.length ≤ 10 := by omega
      have FIN : Hid (∀ (W : World) (B : Option Addr) (c : Nat) (L : List Int), OwnI W w2.heap.size (.slice B L.length c) L → L.length ≤ 11 → w2.grownBy W (some w.heap.size) → DrawnPN w (.returned (.tuple #[.slice b2 xs.length cp, .slice B L.length c])) W) := fun W B c L hL hl hGW => by
        obtain ⟨b3, c3, hv, hI⟩ := own_pl (pl_kept HOL.out hGW hb1)
        injection hv with e1 e2 e3
        subst e1
        exact ⟨b2, cp, xs, B, c, L, rfl, l6, hcp2, hI, hl, own_capP hL, OwnI.at_ hL, below_grown HB2.out hGW (Nat.le_refl _)⟩
      have HO := Lib.hid hO
      have HG := Lib.hid hG
      clear hO hG
      by_cases hz : ks.length = 0
      · have e1 : decide (0 < (ks.length : Int)) = false := decide_eq_false (by omega)
        have e2 : decide (0 < ks.length) = false := decide_eq_false (by omega)
        clear hz hR
        go_wp2_with fail
        go_returns
        exact FIN.out _ _ _ _ HO.out (by omega) HG.out
      have e1 : decide (0 < (ks.length : Int)) = true := decide_eq_true (by omega)
      have e2 : decide (0 < ks.length) = true := decide_eq_true (by omega)
      have x1 : (0 : Int) < (ks.length : Int) := by omega
      have x0 : 0 < ks.length := by omega
      obtain ⟨gk, rfl, hgk⟩ := OwnI.form_ HO.out x0
      clear hz
      go_wp2_with fail
      refine (pick_any w.heap.size _ 12 _ hR (by omega)).mono ?_
      rintro e w7 ⟨p, rfl, hp, hR7, hG7⟩
      have s7 := hG7.size
      have hb7 := Nat.lt_of_lt_of_le hbr hG7.size
      have hO7 : OwnI w7 w2.heap.size (.slice (some ⟨gk, 0, none⟩) ks.length vc) ks := World.ownsRow.kept HO.out hG7 (.inr (by intro h; have := (World.ownsRow.lt HO.out w.heap.size h).1; omega))
      have HG7 := Lib.hid (g_trans HG.out hG7)
      have hs7 : w2.heap.size < w7.heap.size := by omega
      clear hR hG7 HO HG hp
      by_cases p0 : p = 0
      rotate_left
      · have e4 : ((p : Int) == 0) = false := beq_eq_false_iff_ne.2 (by omega)
        have e5 : (p == 0) = false := beq_eq_false_iff_ne.2 p0
        have HO7 := Lib.hid hO7
        clear hO7 p0 hR7
        go_wp2_with fail
        go_returns
        exact FIN.out _ _ _ _ HO7.out (by omega) HG7.out
      subst p0
      have c0 := OwnI.cell hO7 x0
      generalize ks.getD 0 0 = z0 at c0
      have HO7 := Lib.hid hO7
      clear hO7
      go_wp2_with fail
      refine (one_lit w.heap.size 3 _ (min z0 (-1)) (max z0 10) [z0, -1, 10] _ w7 hR7 (by omega) hb7 rfl (by omega) (by omega) (by simp; omega)).mono ?_
      rintro e w8 ⟨y, rfl, _, _, hR8, hG8⟩
      have s8 := hG8.size
      have HO8 : Hid (OwnI w8 w2.heap.size (.slice (some ⟨gk, 0, none⟩) ks.length vc) ks) := World.ownsRow.kept HO7.out hG8 (.inr (by intro h; have := (World.ownsRow.lt HO7.out w.heap.size h).1; omega))
      have HG8 := Lib.hid (g_trans HG7.out hG8)
      have hs8 : w2.heap.size < w8.heap.size := by omega
      have HR8 := Lib.hid hR8
      clear hR7 hG8 hR8 c0 HO7 HG7
      go_wp2_with (first | (at_builtin; refine wpList_append_own _ rfl (.tmp 34) (.tmp 41) _ rfl w2.heap.size 3 i0 (.int .i64 0) 1 8 Try.underlying31 hi0 hz0 hz1 hz2 rfl (by decide) _ _ _ rfl (World.ownsRow.alloc HO8.out _) ⟨w8.heap.size, 0, none⟩ 1 1 [.int .i64 y] rfl rfl (cell_one_new _ _ _) (fun x hx => by simp at hx; subst hx; rfl) (by unfold maxLen; omega) (by omega) (by simp; omega) ?_; intro v3 w3 hown3 hgrow3 hnil3))
      have hB14 : Below w2.heap.size w8 w3 := ((Below.refl _ w8).alloc (Nat.le_of_lt hs8) _).grown hgrow3 (by simp; omega) (fun q hq => (World.ownsRow.lt HO8.out q hq).1)
      have hfin := rd_end hb2 HR8.out rfl HG8.out hB14
      have hlL : (ks ++ [y]).length = ks.length + 1 := by rw [List.length_append]; rfl
      have HX := Lib.hid (And.intro (OwnI.snoc hown3) hfin.2)
      clear hgrow3 hnil3 hown3 hB14 hfin
      obtain ⟨vb3, vc3, hv3, _⟩ := OwnI.ints HX.out.1
      subst hv3
      go_wp2_with fail
      go_returns
      exact FIN.out _ _ _ _ HX.out.1 (by rw [hlL]; omega) HX.out.2
end Go.Proofs.Ytigapnbpgbfbhac
