/- Claims by the model: gaps, gifts. Condition: at most 1048576 numbers. -/
import Derived.Test.YtojkgabkiagjdacClmS
import Derived.Test.YtojkgabkiagjdacClmM
import Derived.Deep.RegionHeld3
namespace Go.Proofs.Ytojkgabkiagjdac
open Go.RowKit
set_option linter.unusedSimpArgs false
set_option linter.unusedVariables false
set_option maxRecDepth 100000 in
set_option maxHeartbeats 4000000 in
/-- spec.gaps -/
theorem sgaps (a : Option Addr) (ca : Nat) (zs : List Int) (w : World) (h : IsInts w a zs) (hall : allB zs 500 = true) (h12 : zs.length ≤ 12) :
    Calls Try.prog 62 #[.slice a zs.length ca] w fun e w' => e = .returned (.int .i64 (gapZ zs)) ∧ Below w.heap.size w w' := by
  have HA := Lib.hid h
  have HZ : Hid (allB zs 500 = true ∧ zs.length ≤ 12) := ⟨hall, h12⟩
  obtain ⟨m, hm⟩ : ∃ m, zs.length = m := ⟨_, rfl⟩
  have HL := Lib.hid hm
  have m12 : m ≤ 12 := by omega
  have e1 : (m : Int) ≤ 12 := by omega
  rw [hm]
  clear hm hall h h12
  go_enter Try.func62, Try.ntmps62
  go_wp2_with fail
  go_loopw [3, 4] (fun s i wr => ∃ k : Nat, k ≤ m ∧ i = .int .i64 k ∧ s = .int .i64 (gapO zs k) ∧ Below w.heap.size w wr) (fun _ i _ => m - (intOf i).toNat)
  case atStart => exact ⟨0, Nat.zero_le _, rfl, rfl, Below.refl _ _⟩
  case round =>
    obtain ⟨i, hi, rfl, rfl, hB⟩ := hrel
    obtain ⟨w4, hw4⟩ : ∃ W, W = wr := ⟨_, rfl⟩
    subst hw4
    by_cases hlt : i < m
    · have hic : i < zs.length := by have := HL.out; omega
      have o0 := gapO_bd HZ.out.1 HZ.out.2 i (by omega)
      have HO1 : Hid (gapO zs (i + 1) = gapO zs i + gapI zs i i) := rfl
      have HGB := Lib.hid (fun k hk => gapI_bd HZ.out.1 hic k hk)
      obtain ⟨gc, oc, rfl, x0⟩ := ints_open HA.out (by omega)
      have HX := Lib.hid x0
      have x1 := cell_now (x0 i hic) hB
      have HXB := Lib.hid (allB_get HZ.out.1 hic)
      obtain ⟨G, hG⟩ : ∃ G, gapO zs i = G := ⟨_, rfl⟩
      have HG := Lib.hid hG
      rw [hG] at o0 ⊢
      have i0 : (0 : Int) ≤ (i : Int) := by omega
      have i1 : (i : Int) < (m : Int) := by omega
      clear hic x0 hG
      go_wp2_with fail
      go_loopw [3, 5] (fun s j wi => ∃ k : Nat, k ≤ i ∧ j = .int .i64 k ∧ s = .int .i64 (G + gapI zs i k) ∧ Below w4.heap.size w4 wi) (fun _ j _ => i - (intOf j).toNat)
      case atStart => exact ⟨0, Nat.zero_le _, rfl, by show _ = Value.int .i64 (G + 0); rw [Int.add_zero], Below.refl _ _⟩
      case round =>
        obtain ⟨k, hk, rfl, rfl, hBi⟩ := hrel
        by_cases hlk : k < i
        · have hkc : k < zs.length := by have := HL.out; omega
          have y0 := cell_now (HX.out k hkc) (bel_tr hB hBi)
          have y1 := (hBi.cell (p := ⟨gc, oc + i, none⟩) (World.block_lt_of_cell? w4 _ x1)).trans x1
          have g0 := HGB.out k (by omega)
          have HG1 : Hid (gapI zs i (k + 1) = gapI zs i k + gapD (zs.getD i 0) (zs.getD k 0)) := rfl
          have b1 := HXB.out
          have b2 := allB_get HZ.out.1 hkc
          generalize gapI zs i k = u at *
          generalize zs.getD i 0 = x at *
          generalize zs.getD k 0 = y at *
          have k0 : (0 : Int) ≤ (k : Int) := by omega
          have k1 : (k : Int) < (m : Int) := by omega
          clear hkc
          have wx : IntKind.i64.wrap (x - y) = x - y := by rw [IntKind.wrap_i64]; omega
          have wy : IntKind.i64.wrap (y - x) = y - x := by rw [IntKind.wrap_i64]; omega
          by_cases cxy : x - y < y - x
          · have hdd : gapD x y = y - x := by unfold gapD; split <;> omega
            rw [hdd] at HG1
            have wd : IntKind.i64.wrap (G + u + (y - x)) = G + u + (y - x) := by rw [IntKind.wrap_i64]; omega
            clear hdd
            go_wp2_with fail
            go_quiet (fail)
            go_wp2
            go_roundw
            case rel => exact ⟨k + 1, by omega, by go_num, by rw [HG1.out, Int.add_assoc], below_drewN hBi _⟩
            case measure => simp [intOf]; omega
          · have hdd : gapD x y = x - y := by unfold gapD; split <;> omega
            rw [hdd] at HG1
            have wd : IntKind.i64.wrap (G + u + (x - y)) = G + u + (x - y) := by rw [IntKind.wrap_i64]; omega
            clear hdd
            go_wp2_with fail
            go_quiet (fail)
            go_wp2
            go_roundw
            case rel => exact ⟨k + 1, by omega, by go_num, by rw [HG1.out, Int.add_assoc], below_drewN hBi _⟩
            case measure => simp [intOf]; omega
        · obtain rfl : k = i := by omega
          have B2 := bel_tr hB hBi
          go_wp2_with fail
          go_roundw
          case rel => exact ⟨k + 1, by omega, by go_num, by rw [HO1.out, HG.out], B2⟩
          case measure => simp [intOf]; omega
    · obtain rfl : i = m := by omega
      have HF : Hid (gapO zs i = gapZ zs) := by have := HL.out; show _ = _; rw [← this]; rfl
      go_wp2_with fail
      go_ret
      exact ⟨ret_int HF.out, hB⟩
set_option maxRecDepth 100000 in
set_option maxHeartbeats 4000000 in
/-- spec.GapsOf -/
theorem sGaps (a : Option Addr) (ca : Nat) (zs : List Int) (w : World) (h : IsInts w a zs) (hn : zs.length ≤ 1048576) :
    Calls Try.prog 32 #[.slice a zs.length ca] w fun e w' => e = .returned (.int .i64 (gapV zs)) ∧ Below w.heap.size w w' := by
  have HA := Lib.hid h
  have HCG := Lib.hid (fun (ha : allB zs 500 = true) (hb : zs.length ≤ 12) => sgaps a ca zs w h ha hb)
  obtain ⟨m, hm⟩ : ∃ m, zs.length = m := ⟨_, rfl⟩
  have HL := Lib.hid hm
  have m1 : m ≤ 1048576 := by omega
  rw [hm] at HCG ⊢
  clear h hm hn
  go_enter Try.func32, Try.ntmps32
  go_wp2_with fail
  go_loop [3] (fun i => ∃ k : Nat, k ≤ m ∧ i = .int .i64 k ∧ Hid (∀ j, j < k → 0 ≤ zs.getD j 0 ∧ zs.getD j 0 ≤ 500)) (fun i => m - (intOf i).toNat)
  case atStart => exact ⟨0, Nat.zero_le _, rfl, fun j hj => absurd hj (Nat.not_lt_zero _)⟩
  case round =>
    obtain ⟨k, hk, rfl, HE⟩ := hrel
    by_cases hlt : k < m
    · have hkc : k < zs.length := by have := HL.out; omega
      obtain ⟨gc, oc, rfl, x0⟩ := ints_open HA.out (by omega)
      have x0 := x0 k hkc
      have HY : Hid (0 ≤ zs.getD k 0 → zs.getD k 0 ≤ 500 → ∀ j, j < k + 1 → 0 ≤ zs.getD j 0 ∧ zs.getD j 0 ≤ 500) := fun c1 c2 j hj => by
        by_cases e : j = k
        · subst e; exact ⟨c1, c2⟩
        · exact HE.out j (by omega)
      have HN : Hid (zs.getD k 0 < 0 ∨ 500 < zs.getD k 0 → gapV zs = -1) := fun c => gapV_no (gp_no2 (by
        rw [Bool.eq_false_iff]; intro x; have := allB_get x hkc; omega))
      generalize zs.getD k 0 = z at *
      have k0 : (0 : Int) ≤ (k : Int) := by omega
      have k1 : (k : Int) < (m : Int) := by omega
      clear hkc
      by_cases c : z < 0 ∨ 500 < z
      · have HQ := Lib.hid (HN.out c)
        go_wp2_with fail
        refine (inRange_no z 0 500 _ c).mono ?_
        rintro e w' ⟨rfl, rfl⟩
        go_wp2_with fail
        go_ret
        exact ⟨ret_int HQ.out.symm, Below.refl _ _⟩
      · have c0 : 0 ≤ z := by omega
        have c1 : z ≤ 500 := by omega
        have HQ := Lib.hid (HY.out c0 c1)
        clear c
        go_wp2_with fail
        refine (inRange_yes z 0 500 _ c0 c1).mono ?_
        rintro e w' ⟨rfl, rfl⟩
        go_wp2_with fail
        go_round
        case rel => exact ⟨k + 1, by omega, by go_num, HQ.out⟩
        case measure => simp [intOf]; omega
    · obtain rfl : k = m := by omega
      have hall : allB zs 500 = true := allB_yes (fun j hj => HE.out j (by have := HL.out; omega))
      by_cases h12 : 12 < k
      · have e1 : (12 : Int) < (k : Int) := by omega
        have HQ : Hid (gapV zs = -1) := gapV_no (gp_no1 (by have := HL.out; omega))
        clear h12 hall
        go_wp2_with fail
        go_ret
        exact ⟨ret_int HQ.out.symm, Below.refl _ _⟩
      · have e1 : ¬ (12 : Int) < (k : Int) := by omega
        have CG := HCG.out hall (by have := HL.out; omega)
        have HQ : Hid (gapV zs = gapZ zs) := gapV_yes (gp_iff.2 ⟨hall, by have := HL.out; omega⟩)
        clear h12 hall HCG
        generalize gapZ zs = G at *
        go_wp2_with fail
        refine CG.mono ?_
        rintro e w2 ⟨rfl, B⟩
        go_wp2_with fail
        go_ret
        exact ⟨ret_int HQ.out.symm, B⟩
set_option maxRecDepth 100000 in
set_option maxHeartbeats 4000000 in
/-- spec.goodGifts -/
theorem sgood (n : Int) (a b : Option Addr) (ca cb : Nat) (cs gs : List Int) (w : World) (h : IsInts w a cs) (h2 : IsInts w b gs) (hv : vcB n cs = true) (hn2 : gs.length ≤ 1048576) :
    Calls Try.prog 64 #[.int .i64 n, .slice a cs.length ca, .slice b gs.length cb] w fun e w' => e = .returned (.bool (ggB n cs gs)) ∧ Below w.heap.size w w' := by
  have HA := Lib.hid h
  have HB := Lib.hid h2
  have HV := Lib.hid hv
  have CS := fun (W : World) (hW : Below w.heap.size w W) hb => stotal b cb gs W (ints_below h2 hW) hn2 hb
  obtain ⟨v1, v2, v3, v4⟩ := vc_iff.1 hv
  have HCB := Lib.hid (fun i (hi : i < cs.length) => allB_get v1 hi)
  obtain ⟨mg, hmg⟩ : ∃ mg, gs.length = mg := ⟨_, rfl⟩
  obtain ⟨m, hm⟩ : ∃ m, cs.length = m := ⟨_, rfl⟩
  have HL : Hid (cs.length = m ∧ gs.length = mg) := ⟨hm, hmg⟩
  have m12 : m ≤ 12 := by omega
  have mg1 : mg ≤ 1048576 := by omega
  rw [hmg] at CS
  rw [hmg, hm]
  have HCS := Lib.hid CS
  clear hm hmg hv v1 v2 v3 v4 h h2 hn2 CS
  go_enter Try.func64, Try.ntmps64
  go_wp2_with fail
  go_loopw [7] (fun i wr => ∃ k : Nat, k ≤ mg ∧ i = .int .i64 k ∧ Hid (∀ j, j < k → j < m ∧ 0 ≤ gs.getD j 0 ∧ gs.getD j 0 ≤ cs.getD j 0) ∧ Below w.heap.size w wr) (fun i _ => mg - (intOf i).toNat)
  case atStart => exact ⟨0, Nat.zero_le _, rfl, fun j hj => absurd hj (Nat.not_lt_zero _), Below.refl _ _⟩
  case round =>
    obtain ⟨k, hk, rfl, HE, hB⟩ := hrel
    by_cases hlt : k < mg
    · have k0 : (0 : Int) ≤ (k : Int) := by omega
      have k1 : (k : Int) < (mg : Int) := by omega
      by_cases hkm : m ≤ k
      · have e1 : decide ((k : Int) ≥ (m : Int)) = true := decide_eq_true (by omega)
        have e1' : (m : Int) ≤ (k : Int) := by omega
        have HQ : Hid (ggB n cs gs = false) := gg_no (good_len (by have := HL.out; omega))
        clear hkm
        go_wp2_with fail
        go_quiet (fail)
        go_wp2
        go_ret
        exact ⟨ret_bool HQ.out.symm, below_drewN hB _⟩
      · have e1 : decide ((k : Int) ≥ (m : Int)) = false := decide_eq_false (by omega)
        have e1' : decide (m ≤ k) = false := decide_eq_false hkm
        have k2 : (k : Int) < (m : Int) := by omega
        have hkc : k < cs.length := by have := HL.out; omega
        have hkg : k < gs.length := by have := HL.out; omega
        obtain ⟨gc, oc, rfl, x0⟩ := ints_open HA.out (by omega)
        have x0 := cell_now (x0 k hkc) hB
        obtain ⟨gd, od, rfl, x1⟩ := ints_open HB.out (by omega)
        have x1 := cell_now (x1 k hkg) hB
        have HY : Hid (0 ≤ gs.getD k 0 → gs.getD k 0 ≤ cs.getD k 0 → ∀ j, j < k + 1 → j < m ∧ 0 ≤ gs.getD j 0 ∧ gs.getD j 0 ≤ cs.getD j 0) := fun c1 c2 j hj => by
          by_cases e : j = k
          · subst e; exact ⟨by omega, c1, c2⟩
          · exact HE.out j (by omega)
        have HN : Hid (gs.getD k 0 < 0 ∨ cs.getD k 0 < gs.getD k 0 → ggB n cs gs = false) := fun c => gg_no (good_out hkc c)
        generalize gs.getD k 0 = y at *
        generalize cs.getD k 0 = z at *
        clear hkc hkg hkm
        by_cases c : y < 0 ∨ z < y
        · have HQ := Lib.hid (HN.out c)
          have KR := Lib.hid (fun (W : World) (j : Nat) => Calls.quiet_of_same (w := W) (n := j) ((inRange_no y 0 z _ c).mono (fun _ _ h => ⟨h.1, h.2.symm⟩)))
          go_wp2_with fail
          go_quiet (first | (go_at_call_of 61 (Value.int .i64 y); exact KR.out _ _))
          go_wp2
          go_ret
          exact ⟨ret_bool HQ.out.symm, below_drewN hB _⟩
        · have c0 : 0 ≤ y := by omega
          have c1 : y ≤ z := by omega
          have HQ := Lib.hid (HY.out c0 c1)
          have KR := Lib.hid (fun (W : World) (j : Nat) => Calls.quiet_of_same (w := W) (n := j) ((inRange_yes y 0 z _ c0 c1).mono (fun _ _ h => ⟨h.1, h.2.symm⟩)))
          clear c
          go_wp2_with fail
          go_quiet (first | (go_at_call_of 61 (Value.int .i64 y); exact KR.out _ _))
          go_wp2
          go_roundw
          case rel => exact ⟨k + 1, by omega, by go_num, HQ.out, below_drewN hB _⟩
          case measure => simp [intOf]; omega
    · obtain rfl : k = mg := by omega
      by_cases hkm : k = m
      · have HQ := Lib.hid (gg_sum HV.out (by have := HL.out; omega) (fun i hi => (HE.out i (by have := HL.out; omega)).2))
        have CS := HCS.out wr hB (fun z hz => by
          obtain ⟨j, hj, rfl⟩ := List.getElem_of_mem hz
          have e2 := HE.out j (by have := HL.out; omega)
          have e3 := HCB.out j (by have := HL.out; omega)
          rw [List.getD_eq_getElem?_getD, List.getElem?_eq_getElem hj] at e2
          simp only [Option.getD_some] at e2
          omega)
        have e1 : ((k : Int) == (m : Int)) = true := by rw [beq_iff_eq]; omega
        subst hkm
        clear HCS
        go_wp2_with fail
        refine CS.mono ?_
        rintro e w' ⟨rfl, rfl⟩
        go_wp2_with fail
        go_ret
        exact ⟨ret_bool HQ.out.symm, hB⟩
      · have e1 : ((k : Int) == (m : Int)) = false := by rw [beq_eq_false_iff_ne]; omega
        have e2 : ¬ (k : Int) = (m : Int) := by omega
        have HQ : Hid (ggB n cs gs = false) := gg_no (good_len (by have := HL.out; omega))
        clear hkm
        go_wp2_with fail
        go_ret
        exact ⟨ret_bool HQ.out.symm, hB⟩
set_option maxRecDepth 100000 in
set_option maxHeartbeats 4000000 in
/-- spec.GoodGifts -/
theorem sGifts (n : Int) (a b : Option Addr) (ca cb : Nat) (cs gs : List Int) (w : World) (h : IsInts w a cs) (h2 : IsInts w b gs) (hn : cs.length ≤ 1048576) (hn2 : gs.length ≤ 1048576) :
    Calls Try.prog 35 #[.int .i64 n, .slice a cs.length ca, .slice b gs.length cb] w fun e w' => e = .returned (.bool (ggB n cs gs)) ∧ Below w.heap.size w w' := by
  have CV := svc n a ca cs w h hn
  cases hv : vcB n cs with
  | false =>
    rw [gg_no1 hv]
    rw [hv] at CV
    clear hv h h2
    go_enter Try.func35, Try.ntmps35
    go_wp2_with fail
    refine CV.mono ?_
    rintro e w' ⟨rfl, rfl⟩
    go_wp2_with fail
    go_ret
    exact ⟨rfl, Below.refl _ _⟩
  | true =>
  rw [hv] at CV
  have CG := sgood n a b ca cb cs gs w h h2 hv hn2
  generalize ggB n cs gs = V at *
  clear hv h h2
  go_enter Try.func35, Try.ntmps35
  go_wp2_with fail
  refine CV.mono ?_
  rintro e w' ⟨rfl, rfl⟩
  go_wp2_with fail
  refine CG.mono ?_
  rintro e w2 ⟨rfl, B⟩
  go_wp2_with fail
  go_ret
  exact ⟨rfl, B⟩
end Go.Proofs.Ytojkgabkiagjdac
