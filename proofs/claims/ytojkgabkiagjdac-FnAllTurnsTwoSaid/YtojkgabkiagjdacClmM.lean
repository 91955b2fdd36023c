/- Claims by the program: gaps, gifts. Condition: at most 1048576 numbers. -/
import Derived.Test.YtojkgabkiagjdacClmJ
import Derived.Deep.RegionHeld3
namespace Go.Proofs.Ytojkgabkiagjdac
open Go.RowKit
set_option linter.unusedSimpArgs false
set_option linter.unusedVariables false
theorem gp_no1 {zs : List Int} (h : 12 < zs.length) : gpB zs = false := by rw [Bool.eq_false_iff]; intro c; have := (gp_iff.1 c).2; omega
theorem gp_no2 {zs : List Int} (h : allB zs 500 = false) : gpB zs = false := by rw [Bool.eq_false_iff]; intro c; have := (gp_iff.1 c).1; rw [h] at this; cases this
/-- the gaps told place by place -/
def gapI (zs : List Int) (i k : Nat) : Int := sumF (fun j => gapD (zs.getD i 0) (zs.getD j 0)) k
def gapO (zs : List Int) (i : Nat) : Int := sumF (fun j => gapI zs j j) i
theorem gapO_all (zs : List Int) : gapO zs zs.length = gapZ zs := rfl
theorem gapI_bd {zs : List Int} (h : allB zs 500 = true) {i : Nat} (hi : i < zs.length) : ∀ k, k ≤ zs.length → 0 ≤ gapI zs i k ∧ gapI zs i k ≤ 500 * (k : Int) := by
  intro k
  induction k with
  | zero => intro _; show (0 : Int) ≤ 0 ∧ (0 : Int) ≤ _; omega
  | succ k ih =>
    intro hk
    have a := ih (by omega)
    have b := allB_get h hi
    have c := allB_get h (i := k) (by omega)
    show 0 ≤ gapI zs i k + gapD _ _ ∧ gapI zs i k + gapD _ _ ≤ _
    unfold gapD
    split <;> omega
theorem gapO_bd {zs : List Int} (h : allB zs 500 = true) (h12 : zs.length ≤ 12) : ∀ k, k ≤ zs.length → 0 ≤ gapO zs k ∧ gapO zs k ≤ 6000 * (k : Int) := by
  intro k
  induction k with
  | zero => intro _; show (0 : Int) ≤ 0 ∧ (0 : Int) ≤ _; omega
  | succ k ih =>
    intro hk
    have a := ih (by omega)
    have b := gapI_bd h (i := k) (by omega) k (by omega)
    show 0 ≤ gapO zs k + gapI zs k k ∧ gapO zs k + gapI zs k k ≤ _
    omega
theorem absd_gap (a b : Int) : absd a b = gapD a b := rfl
set_option maxRecDepth 100000 in
set_option maxHeartbeats 4000000 in
/-- impl.GapsOf -/
theorem iGaps (a : Option Addr) (ca : Nat) (zs : List Int) (w : World) (h : IsInts w a zs) (hn : zs.length ≤ 1048576) :
    Calls Try.prog 31 #[.slice a zs.length ca] w fun e w' => e = .returned (.int .i64 (gapV zs)) ∧ Below w.heap.size w w' := by
  by_cases h12 : 12 < zs.length
  · have e1 : (12 : Int) < (zs.length : Int) := by omega
    rw [gapV_no (gp_no1 h12)]
    clear h12 h
    go_enter Try.func31, Try.ntmps31
    go_wp2_with fail
    go_ret
    exact ⟨rfl, Below.refl _ _⟩
  have e1 : ¬ (12 : Int) < (zs.length : Int) := by omega
  have CA := iall a ca zs 500 w h hn
  cases hall : allB zs 500 with
  | false =>
    rw [gapV_no (gp_no2 hall)]
    rw [hall] at CA
    clear hall h
    go_enter Try.func31, Try.ntmps31
    go_wp2_with fail
    refine CA.mono ?_
    rintro e w' ⟨rfl, rfl⟩
    go_wp2_with fail
    go_ret
    exact ⟨rfl, Below.refl _ _⟩
  | true =>
  rw [gapV_yes (gp_iff.2 ⟨hall, by omega⟩)]
  rw [hall] at CA
  have HA := Lib.hid h
  have HZ : Hid (allB zs 500 = true ∧ zs.length ≤ 12) := ⟨hall, by omega⟩
  obtain ⟨m, hm⟩ : ∃ m, zs.length = m := ⟨_, rfl⟩
  have HL := Lib.hid hm
  have m12 : m ≤ 12 := by omega
  rw [hm] at CA e1 ⊢
  clear hm hall h hn h12
  go_enter Try.func31, Try.ntmps31
  go_wp2_with fail
  refine CA.mono ?_
  rintro e w' ⟨rfl, rfl⟩
  clear CA
  go_wp2_with fail
  go_loopw [3, 16] (fun s i wr => ∃ k : Nat, k ≤ m ∧ i = .int .i64 k ∧ s = .int .i64 (gapO zs k) ∧ Below w.heap.size w wr) (fun _ i _ => m - (intOf i).toNat)
  case atStart => exact ⟨0, Nat.zero_le _, rfl, rfl, Below.refl _ _⟩
  case round =>
    obtain ⟨i, hi, rfl, rfl, hB⟩ := hrel
    obtain ⟨w4, hw4⟩ : ∃ W, W = wr := ⟨_, rfl⟩
    subst hw4
    by_cases hlt : i < m
    · have hic : i < zs.length := by have := HL.out; omega
      have o0 := gapO_bd HZ.out.1 HZ.out.2 i (by omega)
      have HO1 : Hid (gapO zs (i + 1) = gapO zs i + gapI zs i i) := rfl
      have HGB := Lib.hid (fun k hk => gapI_bd HZ.out.1 hic k hk)
      obtain ⟨gc, oc, rfl, x0⟩ := ints_open HA.out (by omega)
      have HX := Lib.hid x0
      have x1 := cell_now (x0 i hic) hB
      have HXB := Lib.hid (allB_get HZ.out.1 hic)
      obtain ⟨G, hG⟩ : ∃ G, gapO zs i = G := ⟨_, rfl⟩
      have HG := Lib.hid hG
      rw [hG] at o0 ⊢
      have i0 : (0 : Int) ≤ (i : Int) := by omega
      have i1 : (i : Int) < (m : Int) := by omega
      clear hic x0 hG
      go_wp2_with fail
      go_loopw [3, 5] (fun s j wi => ∃ k : Nat, k ≤ i ∧ j = .int .i64 k ∧ s = .int .i64 (G + gapI zs i k) ∧ Below w4.heap.size w4 wi) (fun _ j _ => i - (intOf j).toNat)
      case atStart => exact ⟨0, Nat.zero_le _, rfl, by show _ = Value.int .i64 (G + 0); rw [Int.add_zero], Below.refl _ _⟩
      case round =>
        obtain ⟨k, hk, rfl, rfl, hBi⟩ := hrel
        by_cases hlk : k < i
        · have hkc : k < zs.length := by have := HL.out; omega
          have y0 := cell_now (HX.out k hkc) (bel_tr hB hBi)
          have y1 := (hBi.cell (p := ⟨gc, oc + i, none⟩) (World.block_lt_of_cell? w4 _ x1)).trans x1
          have g0 := HGB.out k (by omega)
          have HG1 : Hid (gapI zs i (k + 1) = gapI zs i k + gapD (zs.getD i 0) (zs.getD k 0)) := rfl
          have b1 := HXB.out
          have b2 := allB_get HZ.out.1 hkc
          generalize gapI zs i k = u at *
          generalize zs.getD i 0 = x at *
          generalize zs.getD k 0 = y at *
          have k0 : (0 : Int) ≤ (k : Int) := by omega
          have k1 : (k : Int) < (m : Int) := by omega
          clear hkc
          have wd : IntKind.i64.wrap (G + u + absd x y) = G + u + absd x y := by
            rw [IntKind.wrap_i64]; unfold absd; split <;> omega
          have KD := Lib.hid (fun (W : World) (j : Nat) => Calls.quiet_of_same (w := W) (n := j) ((idiff x y _ (by omega) (by omega)).mono (fun _ _ h => ⟨h.1, h.2.symm⟩)))
          have HG2 : Hid (gapI zs i (k + 1) = u + absd x y) := by show _ = _; rw [HG1.out]; rfl
          generalize absd x y = dd at *
          go_wp2_with fail
          go_quiet (first | (go_at_call_of 60 (Value.int .i64 x); exact KD.out _ _))
          go_wp2
          go_roundw
          case rel => exact ⟨k + 1, by omega, by go_num, by rw [HG2.out, Int.add_assoc], below_drewN hBi _⟩
          case measure => simp [intOf]; omega
        · obtain rfl : k = i := by omega
          have B2 := bel_tr hB hBi
          go_wp2_with fail
          go_roundw
          case rel => exact ⟨k + 1, by omega, by go_num, by rw [HO1.out, HG.out], B2⟩
          case measure => simp [intOf]; omega
    · obtain rfl : i = m := by omega
      have HF : Hid (gapO zs i = gapZ zs) := by have := HL.out; show _ = _; rw [← this]; rfl
      go_wp2_with fail
      go_ret
      exact ⟨ret_int HF.out, hB⟩
theorem good_len {n : Int} {cs gs : List Int} (h : gs.length ≠ cs.length) : ¬ Good n cs gs := fun c => h c.1
theorem good_out {n : Int} {cs gs : List Int} {k : Nat} (hk : k < cs.length) (h : gs.getD k 0 < 0 ∨ cs.getD k 0 < gs.getD k 0) : ¬ Good n cs gs := fun c => by have := c.2.2 k hk; omega
theorem gg_sum {n : Int} {cs gs : List Int} (h : vcB n cs = true) (hl : gs.length = cs.length) (hb : ∀ i, i < cs.length → 0 ≤ gs.getD i 0 ∧ gs.getD i 0 ≤ cs.getD i 0) : ggB n cs gs = (gs.sum == n) := by
  by_cases c : gs.sum = n
  · rw [gg_yes h ⟨hl, c, hb⟩, c]; simp
  · rw [gg_no (fun x => c x.2.1)]
    exact (beq_eq_false_iff_ne.2 c).symm
set_option maxRecDepth 100000 in
set_option maxHeartbeats 4000000 in
/-- impl.GoodGifts -/
theorem iGifts (n : Int) (a b : Option Addr) (ca cb : Nat) (cs gs : List Int) (w : World) (h : IsInts w a cs) (h2 : IsInts w b gs) (hn : cs.length ≤ 1048576) (hn2 : gs.length ≤ 1048576) :
    Calls Try.prog 29 #[.int .i64 n, .slice a cs.length ca, .slice b gs.length cb] w fun e w' => e = .returned (.bool (ggB n cs gs)) ∧ w = w' := by
  have CV := iVC n a ca cs w h hn
  cases hv : vcB n cs with
  | false =>
    rw [gg_no1 hv]
    rw [hv] at CV
    clear hv h h2
    go_enter Try.func29, Try.ntmps29
    go_wp2_with fail
    refine CV.mono ?_
    rintro e w' ⟨rfl, rfl⟩
    go_wp2_with fail
    go_ret
    exact ⟨rfl, rfl⟩
  | true =>
  rw [hv] at CV
  by_cases hl : gs.length ≠ cs.length
  · rw [gg_no (good_len hl)]
    have e1 : ((gs.length : Int) != (cs.length : Int)) = true := by simp; omega
    clear hv h h2 hl
    go_enter Try.func29, Try.ntmps29
    go_wp2_with fail
    refine CV.mono ?_
    rintro e w' ⟨rfl, rfl⟩
    go_wp2_with fail
    go_ret
    exact ⟨rfl, rfl⟩
  replace hl : gs.length = cs.length := by omega
  obtain ⟨v1, v2, v3, v4⟩ := vc_iff.1 hv
  have HA := Lib.hid h
  have HB := Lib.hid h2
  have HV := Lib.hid hv
  obtain ⟨m, hm⟩ : ∃ m, cs.length = m := ⟨_, rfl⟩
  have HL : Hid (cs.length = m ∧ gs.length = m) := ⟨hm, by omega⟩
  have m12 : m ≤ 12 := by omega
  have CS := fun hb => isum b cb gs w h2 hn2 hb
  rw [HL.out.2] at CS
  rw [hm] at CV
  rw [HL.out.2, hm]
  have HCS := Lib.hid CS
  have HCB := Lib.hid (fun i (hi : i < cs.length) => allB_get v1 hi)
  clear hm hl hv v1 v2 v3 v4 h h2 hn hn2 CS
  go_enter Try.func29, Try.ntmps29
  go_wp2_with fail
  refine CV.mono ?_
  rintro e w' ⟨rfl, rfl⟩
  clear CV
  go_wp2_with fail
  go_loop [22] (fun i => ∃ k : Nat, k ≤ m ∧ i = .int .i64 k ∧ Hid (∀ j, j < k → 0 ≤ gs.getD j 0 ∧ gs.getD j 0 ≤ cs.getD j 0)) (fun i => m - (intOf i).toNat)
  case atStart => exact ⟨0, Nat.zero_le _, rfl, fun j hj => absurd hj (Nat.not_lt_zero _)⟩
  case round =>
    obtain ⟨k, hk, rfl, HE⟩ := hrel
    by_cases hlt : k < m
    · have hkc : k < cs.length := by have := HL.out; omega
      have hkg : k < gs.length := by have := HL.out; omega
      obtain ⟨gc, oc, rfl, x0⟩ := ints_open HA.out (by omega)
      have x0 := x0 k hkc
      obtain ⟨gd, od, rfl, x1⟩ := ints_open HB.out (by omega)
      have x1 := x1 k hkg
      have HY : Hid (0 ≤ gs.getD k 0 → gs.getD k 0 ≤ cs.getD k 0 → ∀ j, j < k + 1 → 0 ≤ gs.getD j 0 ∧ gs.getD j 0 ≤ cs.getD j 0) := fun c1 c2 j hj => by
        by_cases e : j = k
        · subst e; exact ⟨c1, c2⟩
        · exact HE.out j (by omega)
      have HN : Hid (gs.getD k 0 < 0 ∨ cs.getD k 0 < gs.getD k 0 → ggB n cs gs = false) := fun c => gg_no (good_out hkc c)
      generalize gs.getD k 0 = y at *
      generalize cs.getD k 0 = z at *
      have k0 : (0 : Int) ≤ (k : Int) := by omega
      have k1 : (k : Int) < (m : Int) := by omega
      clear hkc hkg
      by_cases c : y < 0 ∨ z < y
      · have HQ := Lib.hid (HN.out c)
        go_wp2_with fail
        refine (iwithin_no y z _ c).mono ?_
        rintro e w' ⟨rfl, rfl⟩
        go_wp2_with fail
        go_ret
        exact ⟨ret_bool HQ.out.symm, rfl⟩
      · have c0 : 0 ≤ y := by omega
        have c1 : y ≤ z := by omega
        have HQ := Lib.hid (HY.out c0 c1)
        clear c
        go_wp2_with fail
        refine (iwithin_yes y z _ c0 c1).mono ?_
        rintro e w' ⟨rfl, rfl⟩
        go_wp2_with fail
        go_round
        case rel => exact ⟨k + 1, by omega, by go_num, HQ.out⟩
        case measure => simp [intOf]; omega
    · obtain rfl : k = m := by omega
      have HQ := Lib.hid (gg_sum HV.out (HL.out.2.trans HL.out.1.symm) (fun i hi => HE.out i (by have := HL.out; omega)))
      have CS := HCS.out (fun z hz => by
        obtain ⟨j, hj, rfl⟩ := List.getElem_of_mem hz
        have e2 := HE.out j (by have := HL.out; omega)
        have e3 := HCB.out j (by have := HL.out; omega)
        rw [List.getD_eq_getElem?_getD, List.getElem?_eq_getElem hj] at e2
        simp only [Option.getD_some] at e2
        omega)
      clear HCS
      go_wp2_with fail
      refine CS.mono ?_
      rintro e w' ⟨rfl, rfl⟩
      go_wp2_with fail
      go_ret
      exact ⟨ret_bool HQ.out.symm, rfl⟩
end Go.Proofs.Ytojkgabkiagjdac
