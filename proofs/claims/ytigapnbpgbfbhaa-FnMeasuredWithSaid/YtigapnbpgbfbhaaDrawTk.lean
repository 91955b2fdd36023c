/- Draws of measures. Condition: the bytes as they came in. -/
import Derived.Test.YtigapnbpgbfbhaaDrawNa
import Derived.Test.YtigapnbpgbfbhaaMeaS
namespace Go.Proofs.Ytigapnbpgbfbhaa
open Go.RowKit
set_option linter.unusedSimpArgs false
set_option linter.unusedVariables false
theorem g_madeK {w w1 w2 : World} {b : Nat} (h : Below w.heap.size w w1) (hG : w1.grownBy w2 (some b)) (hb : w.heap.size ≤ b) : Below w.heap.size w w2 := below_grown h hG hb
/-- what someTaken leaves -/
def SomeTk (w : World) (b n : Nat) (P : Int) (e : Ending) (w' : World) : Prop := ∃ (v : Value) (zs : List Int), e = .returned v ∧ zs.length = n ∧ (∀ z ∈ zs, -1 ≤ z ∧ z ≤ 501) ∧ OwnI w' w.heap.size v zs ∧ Rd w' b (P + 30) ∧ w.grownBy w' (some b)
theorem ownI_keptK {w w' : World} {base b : Nat} {v : Value} {zs : List Int} (h : OwnI w base v zs) (hG : w.grownBy w' (some b)) (hb : b < base) : OwnI w' base v zs := h.apart hG (fun q hq => by have := Option.some.inj hq; omega)
set_option maxRecDepth 100000 in
set_option maxHeartbeats 8000000 in
theorem someTk (b n : Nat) (P : Int) (w : World) (h : Rd w b P) (hP : P ≤ 70000) (hb : b < w.heap.size) (hn : n ≤ 10) :
    Calls Try.prog 61 #[.pointer (some ⟨b, 0, none⟩), .int .i64 (n : Int)] w (SomeTk w b n P) := by
  obtain ⟨i0, hi0, hz0, hz1, hz2⟩ := info_parts infoInt
  go_enter Try.func61, Try.ntmps61
  go_wp2_with fail
  have HO := Lib.hid (OwnI.new (Below.refl _ w))
  have HR := Lib.hid (rd_alloc h hb (.cells #[] 3))
  have HG := Lib.hid (World.grownBy_alloc w (.cells #[] 3) (some b))
  clear h
  have hs0 : w.heap.size < (w.alloc (.cells #[] 3)).heap.size := by simp
  go_loopw [5, 6] (fun v q wr => ∃ (k : Nat) (zs : List Int), k ≤ n ∧ q = .int .i64 (k : Int) ∧ Hid (OwnI wr w.heap.size v zs ∧ (∀ z ∈ zs, -1 ≤ z ∧ z ≤ 501) ∧ zs.length = k ∧ Rd wr b (P + 2 * (k : Int)) ∧ w.grownBy wr (some b)) ∧ w.heap.size < wr.heap.size) (fun _ q _ => n - (intOf q).toNat)
  case atStart => exact ⟨0, [], Nat.zero_le _, rfl, ⟨HO.out, by simp, rfl, by simpa using HR.out, HG.out⟩, hs0⟩
  case round =>
    clear HO HR HG hs0
    obtain ⟨k, zs, hk, rfl, HR, hsz⟩ := hrel
    have hkl := HR.out.2.2.1
    by_cases hlt : k < n
    · have hbr : b < wr.heap.size := by omega
      have hR := HR.out.2.2.2.1
      have hzl : zs.length ≤ 20 := by omega
      have HKL := Lib.hid hkl
      have k1 : (k : Int) < (n : Int) := by omega
      clear hkl
      go_wp2_with fail
      refine (pick_any b _ 30 _ hR (by omega)).mono ?_
      rintro e w7 ⟨p, rfl, hp, hR7, hG7⟩
      have hb7 := Nat.lt_of_lt_of_le hbr hG7.size
      have hp6 : (p : Int) ≤ 30 := by omega
      clear hR hp
      go_wp2_with fail
      refine (one_lit b 6 _ 0 30 [0, 0, 0, 3, 10, (p : Int)] _ w7 hR7 (by omega) hb7 rfl (by omega) (by omega) (by simp; omega)).mono ?_
      rintro e w8 ⟨z, rfl, z0, z1, hR8, hG8⟩
      have G8 := g_trans hG7 hG8
      have hO8 := ownI_keptK HR.out.1 G8 hb
      have hR8' := rd_up (P' := P + 2 * ((k + 1 : Nat) : Int)) hR8 (by omega)
      have hs8 : w.heap.size < w8.heap.size := by have := G8.size; omega
      have HR8 := Lib.hid (And.intro hR8' (g_trans HR.out.2.2.2.2 G8))
      clear hR7 hG7 hG8 G8 hR8 hR8'
      go_wp2_with (first | (at_builtin; refine wpList_append_own _ rfl (.tmp 13) (.tmp 19) _ rfl w.heap.size 3 i0 (.int .i64 0) 1 8 Try.underlying23 hi0 hz0 hz1 hz2 rfl (by decide) _ _ _ rfl (hO8.alloc _) ⟨w8.heap.size, 0, none⟩ 1 1 [.int .i64 z] rfl rfl (cell_one_new _ _ _) (fun x hx => by simp at hx; subst hx; rfl) (by unfold maxLen; omega) (by omega) (by simp; omega) ?_; intro v3 w3 hown3 hgrow3 hnil3))
      have hB12 : Below w.heap.size w8 w3 := ((Below.refl _ w8).alloc (Nat.le_of_lt hs8) _).grown hgrow3 (by simp; omega) hO8.grow
      obtain ⟨R12, G12⟩ := rd_end (P := P + 2 * ((k + 1 : Nat) : Int)) hb HR8.out.1 rfl HR8.out.2 hB12
      have HF : Hid (OwnI w3 w.heap.size v3 (zs ++ [z]) ∧ (∀ y ∈ zs ++ [z], -1 ≤ y ∧ y ≤ 501) ∧ (zs ++ [z]).length = k + 1 ∧ Rd w3 b (P + 2 * ((k + 1 : Nat) : Int)) ∧ w.grownBy w3 (some b)) := ⟨OwnI.snoc hown3, fun y hy => by
        rcases List.mem_append.1 hy with h | h
        · exact HR.out.2.1 y h
        · simp at h; omega, by rw [List.length_append, HKL.out]; rfl, R12, G12⟩
      have hs12 : w.heap.size < w3.heap.size := by have := hB12.size; omega
      clear hown3 hgrow3 hnil3 hB12 R12 G12 hO8 HR8 HR
      go_roundw
      case rel => exact ⟨k + 1, zs ++ [z], by omega, by go_num, HF.out, hs12⟩
      case measure => simp [intOf]; omega
    · have hzl : zs.length ≤ 20 := by omega
      have hO := HR.out.1
      obtain ⟨vb, vc, rfl, _⟩ := hO.ints
      have HO := Lib.hid hO
      have k1 : ¬ (k : Int) < (n : Int) := by omega
      clear hO
      by_cases hz : n = 0
      · have HF : Hid (OwnI wr w.heap.size (.slice vb zs.length vc) zs ∧ (∀ z ∈ zs, -1 ≤ z ∧ z ≤ 501) ∧ zs.length = n ∧ Rd wr b (P + 30) ∧ w.grownBy wr (some b)) := ⟨HO.out, HR.out.2.1, by omega, rd_up HR.out.2.2.2.1 (by omega), HR.out.2.2.2.2⟩
        have e1 : decide (0 < (n : Int)) = false := decide_eq_false (by omega)
        have e2 : decide (0 < n) = false := decide_eq_false (by omega)
        clear HR HO hkl hz
        go_wp2_with fail
        go_ret
        exact ⟨_, zs, rfl, HF.out.2.2.1, HF.out.2.1, HF.out.1, HF.out.2.2.2.1, HF.out.2.2.2.2⟩
      · obtain ⟨gz, rfl, hgz⟩ := HO.out.form_ (by omega)
        have e1 : decide (0 < (n : Int)) = true := decide_eq_true (by omega)
        have e2 : decide (0 < n) = true := decide_eq_true (by omega)
        have e3 : 0 < zs.length := by omega
        have hbr : b < wr.heap.size := by omega
        have hR := HR.out.2.2.2.1
        have HZN : Hid (zs.length = n) := by show _ = _; omega
        have HKL := Lib.hid hkl
        clear hkl hz
        go_wp2_with fail
        refine (pick_any b _ 20 _ hR (by omega)).mono ?_
        rintro e w7 ⟨p, rfl, hp, hR7, hG7⟩
        have hb7 := Nat.lt_of_lt_of_le hbr hG7.size
        have HO7 := Lib.hid (ownI_keptK HO.out hG7 hb)
        have G7 := Lib.hid (g_trans HR.out.2.2.2.2 hG7)
        have HZ := Lib.hid HR.out.2.1
        clear hR hp hG7 HR HO
        by_cases p0 : p = 0
        · subst p0
          go_wp2_with fail
          refine (one_lit b 2 _ (-1) 501 [-1, 501] _ w7 hR7 (by omega) hb7 rfl (by omega) (by omega) (by simp)).mono ?_
          rintro e w8 ⟨z, rfl, z0, z1, hR8, hG8⟩
          have hO8 := ownI_keptK HO7.out hG8 hb
          have hc0 := hO8.cell (j := 0) e3
          have hf0 := hO8.frozen 0
          have hS := hO8.set_ 0 z
          have hB : Below w.heap.size w8 (w8.setCell ⟨gz, 0, none⟩ (.int .i64 z)) := (Below.refl _ _).setCell (p := ⟨gz, 0, none⟩) hgz _
          have hfin := rd_end (P := P + 30) hb (rd_up (P' := P + 30) hR8 (by omega)) rfl (g_trans G7.out hG8) hB
          have HS := Lib.hid (And.intro hS hfin)
          generalize zs.getD 0 0 = y0 at hc0
          clear hS hfin hB hO8 hG8 hR8 hR7
          go_wp2_with fail
          go_ret
          have hl2 : (zs.set 0 z).length = zs.length := List.length_set
          refine ⟨_, zs.set 0 z, rfl, by rw [hl2]; exact HZN.out, fun y hy => ?_, HS.out.1, HS.out.2.1, HS.out.2.2⟩
          rcases List.mem_or_eq_of_mem_set hy with h | h
          · exact HZ.out y h
          · subst h; exact ⟨z0, z1⟩
        · have e4 : ((p : Int) == 0) = false := beq_eq_false_iff_ne.2 (by omega)
          have e5 : (p == 0) = false := beq_eq_false_iff_ne.2 p0
          have HF := Lib.hid (rd_up (P' := P + 30) hR7 (by omega))
          clear hR7 p0
          go_wp2_with fail
          go_ret
          exact ⟨_, zs, rfl, HZN.out, HZ.out, HO7.out, HF.out, G7.out⟩
def DrawnExp (w : World) (e : Ending) (w' : World) : Prop := ∃ (a : Option Addr) (cap : Nat) (xs : List Nd) (b2 : Option Addr) (c2 : Nat) (ms : List Int), e = .returned (.tuple #[.slice a xs.length cap, .slice b2 ms.length c2]) ∧ 1 ≤ xs.length ∧ xs.length ≤ 10 ∧ xs.length ≤ cap ∧ IsNd w' a xs ∧ ms.length ≤ 10 ∧ IsInts w' b2 ms ∧ Below w.heap.size w w'
set_option maxRecDepth 100000 in
set_option maxHeartbeats 8000000 in
theorem drawExp (a : Option Addr) (len cap : Nat) (zs : List Int) (w : World) (h : IsRow .u8 w a len cap zs) :
    Calls Try.prog 30 #[.slice a len cap] w (DrawnExp w) := by
  go_enter Try.func30, Try.ntmps30
  go_wp2_with fail
  refine (newReader_any a len cap zs _ h).mono ?_
  rintro e w1 ⟨rfl, hR1, hB1, hb1⟩
  clear h
  go_wp2_with fail
  refine (anyNd w.heap.size _ _ hR1 (by omega) hb1).mono ?_
  rintro e w2 ⟨b, cp, xs, rfl, l1, l10, hlc, hi, hblk, hR2, hG2⟩
  have hb2 := Nat.lt_of_lt_of_le hb1 hG2.size
  have hB2 := g_madeK hB1 hG2 (Nat.le_refl _)
  have hw1 : w.heap.size < w1.heap.size := hb1
  clear hR1 hG2 hB1
  go_wp2_with fail
  have VN := svn b cp xs _ hi (by omega)
  refine VN.mono ?_
  rintro e w3 ⟨rfl, C⟩
  have hR3 := rd_below hR2 hb2 C
  have hB3 := bel_tr hB2 C
  have hi3 := nd_below hi C
  have hb3 := Nat.lt_of_lt_of_le hb2 C.size
  clear C VN hR2 hB2 hi
  cases hv : vnB xs with
  | false =>
    go_wp2_with fail
    refine (someTk w.heap.size xs.length _ w3 hR3 (by omega) hb3 l10).mono ?_
    rintro e w7 ⟨v, ts, rfl, htl, htz, hO, hR7, hG7⟩
    obtain ⟨b2, c2, rfl, hI⟩ := hO.ints
    have HF : Hid (IsNd w7 b xs ∧ IsInts w7 b2 ts ∧ Below w.heap.size w w7) := ⟨nd_grown hi3 hblk hb1 hG7, hI, g_madeK hB3 hG7 (Nat.le_refl _)⟩
    have HTL := Lib.hid htl
    clear hI hO hR7 hG7 htl htz
    go_wp2_with fail
    go_returns
    exact ⟨b, cp, xs, b2, c2, ts, rfl, l1, l10, hlc, HF.out.1, by rw [HTL.out]; exact l10, HF.out.2.1, HF.out.2.2⟩
  | true =>
    go_wp2_with fail
    refine (pick_any w.heap.size _ 3 _ hR3 (by omega)).mono ?_
    rintro e w4 ⟨p, rfl, hp, hR4, hG4⟩
    have hb4 := Nat.lt_of_lt_of_le hb3 hG4.size
    have hB4 := g_madeK hB3 hG4 (Nat.le_refl _)
    have hi4 := nd_grown hi3 hblk hb1 hG4
    clear hp hR3 hG4 hB3 hi3
    by_cases p0 : p = 0
    · subst p0
      go_wp2_with fail
      refine (someTk w.heap.size xs.length _ w4 hR4 (by omega) hb4 l10).mono ?_
      rintro e w7 ⟨v, ts, rfl, htl, htz, hO, hR7, hG7⟩
      obtain ⟨b2, c2, rfl, hI⟩ := hO.ints
      have HF : Hid (IsNd w7 b xs ∧ IsInts w7 b2 ts ∧ Below w.heap.size w w7) := ⟨nd_grown hi4 hblk hb1 hG7, hI, g_madeK hB4 hG7 (Nat.le_refl _)⟩
      have HTL := Lib.hid htl
      clear hI hO hR7 hG7 htl htz
      go_wp2_with fail
      go_returns
      exact ⟨b, cp, xs, b2, c2, ts, rfl, l1, l10, hlc, HF.out.1, by rw [HTL.out]; exact l10, HF.out.2.1, HF.out.2.2⟩
    · have e1 : decide (0 < (p : Int)) = true := decide_eq_true (by omega)
      have e2 : decide (0 < p) = true := decide_eq_true (by omega)
      clear p0
      go_wp2_with fail
      refine (one_lit w.heap.size 3 _ 0 100 [60, 100, 30] _ w4 hR4 (by omega) hb4 rfl (by omega) (by omega) (by simp)).mono ?_
      rintro e w5 ⟨fl, rfl, f0, f1, hR5, hG5⟩
      have hb5 := Nat.lt_of_lt_of_le hb4 hG5.size
      have hB5 := g_madeK hB4 hG5 (Nat.le_refl _)
      have hi5 := nd_grown hi4 hblk hb1 hG5
      clear hR4 hG5 hB4 hi4
      go_wp2_with fail
      refine (someTk w.heap.size xs.length _ w5 hR5 (by omega) hb5 l10).mono ?_
      rintro e w6 ⟨v, ts, rfl, htl, htz, hO, hR6, hG6⟩
      obtain ⟨tb, tc, rfl, hI⟩ := hO.ints
      have hB6 := g_madeK hB5 hG6 (Nat.le_refl _)
      have hi6 := nd_grown hi5 hblk hb1 hG6
      have CM := sMea b tb cp tc xs fl ts w6 hi6 hI (by omega) (by omega)
      have hrl : (meaV xs fl ts).length ≤ 10 := by unfold meaV; split; rw [meaF_len]; exact l10; simp
      have HB6 := Lib.hid hB6
      have HI6 := Lib.hid hi6
      clear hR5 hG6 hB5 hi5 hO hI hR6 hB6 hi6 htl htz
      generalize meaV xs fl ts = R at CM hrl
      go_wp2_with fail
      refine CM.mono ?_
      rintro e w7 ⟨v, rfl, hO, C⟩
      obtain ⟨b2, c2, rfl, hI⟩ := hO.ints
      have HF : Hid (IsNd w7 b xs ∧ IsInts w7 b2 R ∧ Below w.heap.size w w7) := ⟨nd_below HI6.out C, hI, bel_tr HB6.out C⟩
      clear hI hO C CM
      go_wp2_with fail
      go_returns
      exact ⟨b, cp, xs, b2, c2, R, rfl, l1, l10, hlc, HF.out.1, hrl, HF.out.2.1, HF.out.2.2⟩
def DrawnSus (w : World) (e : Ending) (w' : World) : Prop := ∃ (a : Option Addr) (cap : Nat) (xs : List Nd) (b2 : Option Addr) (c2 : Nat) (ms : List Int) (s : Int), e = .returned (.tuple #[.slice a xs.length cap, .slice b2 ms.length c2, .int .i64 s]) ∧ 1 ≤ xs.length ∧ xs.length ≤ 10 ∧ xs.length ≤ cap ∧ IsNd w' a xs ∧ ms.length ≤ 10 ∧ IsInts w' b2 ms ∧ (-1 ≤ s ∧ s ≤ 501) ∧ Below w.heap.size w w'
set_option maxRecDepth 100000 in
set_option maxHeartbeats 8000000 in
theorem drawSus (a : Option Addr) (len cap : Nat) (zs : List Int) (w : World) (h : IsRow .u8 w a len cap zs) :
    Calls Try.prog 36 #[.slice a len cap] w (DrawnSus w) := by
  go_enter Try.func36, Try.ntmps36
  go_wp2_with fail
  refine (newReader_any a len cap zs _ h).mono ?_
  rintro e w1 ⟨rfl, hR1, hB1, hb1⟩
  clear h
  go_wp2_with fail
  refine (anyNd w.heap.size _ _ hR1 (by omega) hb1).mono ?_
  rintro e w2 ⟨b, cp, xs, rfl, l1, l10, hlc, hi, hblk, hR2, hG2⟩
  have hb2 := Nat.lt_of_lt_of_le hb1 hG2.size
  have hB2 := g_madeK hB1 hG2 (Nat.le_refl _)
  have hw1 : w.heap.size < w1.heap.size := hb1
  clear hR1 hG2 hB1
  go_wp2_with fail
  refine (one_lit w.heap.size 6 _ (-1) 501 [0, 1, 5, 500, 501, -1] _ w2 hR2 (by omega) hb2 rfl (by omega) (by omega) (by simp)).mono ?_
  rintro e w2b ⟨s, rfl, s0, s1, hR2b, hG2b⟩
  have hb2b := Nat.lt_of_lt_of_le hb2 hG2b.size
  have hB2b := g_madeK hB2 hG2b (Nat.le_refl _)
  have hib := nd_grown hi hblk hb1 hG2b
  clear hR2 hG2b hB2 hi hb2
  go_wp2_with fail
  have VN := svn b cp xs _ hib (by omega)
  refine VN.mono ?_
  rintro e w3 ⟨rfl, C⟩
  have hR3 := rd_below hR2b hb2b C
  have hB3 := bel_tr hB2b C
  have hi3 := nd_below hib C
  have hb3 := Nat.lt_of_lt_of_le hb2b C.size
  clear C VN hR2b hB2b hib
  cases hv : vnB xs with
  | false =>
    go_wp2_with fail
    refine (someTk w.heap.size xs.length _ w3 hR3 (by omega) hb3 l10).mono ?_
    rintro e w7 ⟨v, ts, rfl, htl, htz, hO, hR7, hG7⟩
    obtain ⟨b2, c2, rfl, hI⟩ := hO.ints
    have HF : Hid (IsNd w7 b xs ∧ IsInts w7 b2 ts ∧ Below w.heap.size w w7) := ⟨nd_grown hi3 hblk hb1 hG7, hI, g_madeK hB3 hG7 (Nat.le_refl _)⟩
    have HTL := Lib.hid htl
    clear hI hO hR7 hG7 htl htz
    go_wp2_with fail
    go_returns
    exact ⟨b, cp, xs, b2, c2, ts, s, rfl, l1, l10, hlc, HF.out.1, by rw [HTL.out]; exact l10, HF.out.2.1, ⟨s0, s1⟩, HF.out.2.2⟩
  | true =>
    go_wp2_with fail
    refine (pick_any w.heap.size _ 4 _ hR3 (by omega)).mono ?_
    rintro e w4 ⟨p, rfl, hp, hR4, hG4⟩
    have hb4 := Nat.lt_of_lt_of_le hb3 hG4.size
    have hB4 := g_madeK hB3 hG4 (Nat.le_refl _)
    have hi4 := nd_grown hi3 hblk hb1 hG4
    clear hp hR3 hG4 hB3 hi3
    by_cases p0 : p = 0
    · subst p0
      go_wp2_with fail
      refine (someTk w.heap.size xs.length _ w4 hR4 (by omega) hb4 l10).mono ?_
      rintro e w7 ⟨v, ts, rfl, htl, htz, hO, hR7, hG7⟩
      obtain ⟨b2, c2, rfl, hI⟩ := hO.ints
      have HF : Hid (IsNd w7 b xs ∧ IsInts w7 b2 ts ∧ Below w.heap.size w w7) := ⟨nd_grown hi4 hblk hb1 hG7, hI, g_madeK hB4 hG7 (Nat.le_refl _)⟩
      have HTL := Lib.hid htl
      clear hI hO hR7 hG7 htl htz
      go_wp2_with fail
      go_returns
      exact ⟨b, cp, xs, b2, c2, ts, s, rfl, l1, l10, hlc, HF.out.1, by rw [HTL.out]; exact l10, HF.out.2.1, ⟨s0, s1⟩, HF.out.2.2⟩
    · have e1 : decide (0 < (p : Int)) = true := decide_eq_true (by omega)
      have e2 : decide (0 < p) = true := decide_eq_true (by omega)
      clear p0
      go_wp2_with fail
      refine (one_lit w.heap.size 3 _ 0 100 [60, 100, 30] _ w4 hR4 (by omega) hb4 rfl (by omega) (by omega) (by simp)).mono ?_
      rintro e w5 ⟨fl, rfl, f0, f1, hR5, hG5⟩
      have hb5 := Nat.lt_of_lt_of_le hb4 hG5.size
      have hB5 := g_madeK hB4 hG5 (Nat.le_refl _)
      have hi5 := nd_grown hi4 hblk hb1 hG5
      clear hR4 hG5 hB4 hi4
      go_wp2_with fail
      refine (someTk w.heap.size xs.length _ w5 hR5 (by omega) hb5 l10).mono ?_
      rintro e w6 ⟨v, ts, rfl, htl, htz, hO, hR6, hG6⟩
      obtain ⟨tb, tc, rfl, hI⟩ := hO.ints
      have hB6 := g_madeK hB5 hG6 (Nat.le_refl _)
      have hi6 := nd_grown hi5 hblk hb1 hG6
      have CM := sMea b tb cp tc xs fl ts w6 hi6 hI (by omega) (by omega)
      have hrl : (meaV xs fl ts).length ≤ 10 := by unfold meaV; split; rw [meaF_len]; exact l10; simp
      have HB6 := Lib.hid hB6
      have HI6 := Lib.hid hi6
      clear hR5 hG6 hB5 hi5 hO hI hR6 hB6 hi6 htl htz
      generalize meaV xs fl ts = R at CM hrl
      go_wp2_with fail
      refine CM.mono ?_
      rintro e w7 ⟨v, rfl, hO, C⟩
      obtain ⟨b2, c2, rfl, hI⟩ := hO.ints
      have HF : Hid (IsNd w7 b xs ∧ IsInts w7 b2 R ∧ Below w.heap.size w w7) := ⟨nd_below HI6.out C, hI, bel_tr HB6.out C⟩
      clear hI hO C CM
      go_wp2_with fail
      go_returns
      exact ⟨b, cp, xs, b2, c2, R, s, rfl, l1, l10, hlc, HF.out.1, hrl, HF.out.2.1, ⟨s0, s1⟩, HF.out.2.2⟩
def DrawnMea (w : World) (e : Ending) (w' : World) : Prop := ∃ (a : Option Addr) (cap : Nat) (xs : List Nd) (n : Int) (b2 : Option Addr) (c2 : Nat) (ts : List Int), e = .returned (.tuple #[.slice a xs.length cap, .int .i64 n, .slice b2 ts.length c2]) ∧ 1 ≤ xs.length ∧ xs.length ≤ 10 ∧ xs.length ≤ cap ∧ IsNd w' a xs ∧ 0 ≤ n ∧ n ≤ 501 ∧ ts.length = xs.length ∧ (∀ z ∈ ts, -1 ≤ z ∧ z ≤ 501) ∧ IsInts w' b2 ts ∧ Below w.heap.size w w'
set_option maxRecDepth 100000 in
set_option maxHeartbeats 8000000 in
theorem drawMea (a : Option Addr) (len cap : Nat) (zs : List Int) (w : World) (h : IsRow .u8 w a len cap zs) :
    Calls Try.prog 33 #[.slice a len cap] w (DrawnMea w) := by
  go_enter Try.func33, Try.ntmps33
  go_wp2_with fail
  refine (newReader_any a len cap zs _ h).mono ?_
  rintro e w1 ⟨rfl, hR1, hB1, hb1⟩
  clear h
  go_wp2_with fail
  refine (anyNd w.heap.size _ _ hR1 (by omega) hb1).mono ?_
  rintro e w2 ⟨b, cp, xs, rfl, l1, l10, hlc, hi, hblk, hR2, hG2⟩
  have hb2 := Nat.lt_of_lt_of_le hb1 hG2.size
  have hB2 := g_madeK hB1 hG2 (Nat.le_refl _)
  have hw1 : w.heap.size < w1.heap.size := hb1
  clear hR1 hG2 hB1
  go_wp2_with fail
  refine (one_lit w.heap.size 6 _ 0 501 [60, 100, 30, 0, 500, 501] _ w2 hR2 (by omega) hb2 rfl (by omega) (by omega) (by simp)).mono ?_
  rintro e w3 ⟨n, rfl, n0, n1, hR3, hG3⟩
  have hb3 := Nat.lt_of_lt_of_le hb2 hG3.size
  have hB3 := g_madeK hB2 hG3 (Nat.le_refl _)
  have hi3 := nd_grown hi hblk hb1 hG3
  clear hR2 hG3 hB2 hi
  go_wp2_with fail
  refine (someTk w.heap.size xs.length _ w3 hR3 (by omega) hb3 l10).mono ?_
  rintro e w7 ⟨v, ts, rfl, htl, htz, hO, hR7, hG7⟩
  obtain ⟨b2, c2, rfl, hI⟩ := hO.ints
  have HF : Hid (IsNd w7 b xs ∧ IsInts w7 b2 ts ∧ Below w.heap.size w w7) := ⟨nd_grown hi3 hblk hb1 hG7, hI, g_madeK hB3 hG7 (Nat.le_refl _)⟩
  have HTL := Lib.hid htl
  have HTZ := Lib.hid htz
  clear hI hO hR7 hG7 htl htz
  go_wp2_with fail
  go_returns
  exact ⟨b, cp, xs, n, b2, c2, ts, rfl, l1, l10, hlc, HF.out.1, n0, n1, HTL.out, HTZ.out, HF.out.2.1, HF.out.2.2⟩
end Go.Proofs.Ytigapnbpgbfbhaa
