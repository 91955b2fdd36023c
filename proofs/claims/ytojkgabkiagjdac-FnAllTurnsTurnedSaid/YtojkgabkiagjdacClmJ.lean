/- Claims by the program: lists turned round, equal losses, halves, what nobody else claims, shares, gaps, gifts. Condition: at most 1048576 numbers. -/
import Derived.Test.YtojkgabkiagjdacClmI
import Derived.Test.YtojkgabkiagjdacClmQ
import Derived.Test.YtojkgabkiagjdacDist
import Derived.Test.YtojkgabkiagjdacMathR
import Derived.Test.YtojkgabkiagjdacRest
import Derived.RegionTactic
import Derived.ChangeAlike
import Derived.BigRegion
namespace Go.Proofs.Ytojkgabkiagjdac
open Go.RowKit
set_option linter.unusedSimpArgs false
set_option linter.unusedVariables false
theorem mix_skip {zs : List Int} {k : Nat} (h : zs.getD k 0 = 0) : mixZ zs (k + 1) = mixZ zs k := by
  refine ext_z (by rw [mix_len, mix_len]) (fun i hi => ?_)
  rw [mix_len] at hi
  rw [mix_get zs (k + 1) hi, mix_get zs k hi]
  by_cases e : i = k
  · subst e; rw [if_pos (by omega), if_neg (by omega), h]
  · by_cases c : i < k
    · rw [if_pos (by omega), if_pos c]
    · rw [if_neg (by omega), if_neg c]
/-- the last k numbers, and 0 ahead of them, turned round -/
def backTo (zs : List Int) (k : Nat) : List Int := (List.range zs.length).map fun i => if zs.length - 1 - i < k then zs.getD (zs.length - 1 - i) 0 else 0
theorem backTo_len (zs : List Int) (k : Nat) : (backTo zs k).length = zs.length := by unfold backTo; simp
theorem backTo_get (zs : List Int) (k : Nat) {i : Nat} (h : i < zs.length) : (backTo zs k).getD i 0 = if zs.length - 1 - i < k then zs.getD (zs.length - 1 - i) 0 else 0 := by
  unfold backTo
  rw [List.getD_eq_getElem?_getD, List.getElem?_map, List.getElem?_range h]; rfl
theorem backTo_zero (zs : List Int) : backTo zs 0 = List.replicate zs.length 0 := by
  refine ext_z (by rw [backTo_len, List.length_replicate]) (fun i hi => ?_)
  rw [backTo_len] at hi
  rw [backTo_get zs 0 hi, if_neg (by omega), rep_get]
theorem backTo_end (zs : List Int) : backTo zs zs.length = zs.reverse := by
  refine ext_z (by rw [backTo_len, List.length_reverse]) (fun i hi => ?_)
  rw [backTo_len] at hi
  rw [backTo_get zs _ hi, if_pos (by omega), revZ_get zs hi]
theorem backTo_set {zs : List Int} {k : Nat} (h : k < zs.length) : (backTo zs k).set (zs.length - 1 - k) (zs.getD k 0) = backTo zs (k + 1) := by
  refine ext_z (by rw [List.length_set, backTo_len, backTo_len]) (fun i hi => ?_)
  rw [List.length_set, backTo_len] at hi
  rw [getD_setZ i _ (by rw [backTo_len]; omega), backTo_get zs k hi, backTo_get zs (k + 1) hi]
  by_cases e : i = zs.length - 1 - k
  · rw [if_pos e, if_pos (by omega), e, show zs.length - 1 - (zs.length - 1 - k) = k by omega]
  · rw [if_neg e]
    by_cases c : zs.length - 1 - i < k
    · rw [if_pos c, if_pos (by omega)]
    · rw [if_neg c, if_neg (by omega)]
set_option maxRecDepth 100000 in
set_option maxHeartbeats 4000000 in
/-- impl.turnedRound -/
theorem iTurned (a : Option Addr) (ca : Nat) (zs : List Int) (w : World) (ha : IsInts w a zs) (hn : zs.length ≤ 1048576) :
    Calls Try.prog 57 #[.slice a zs.length ca] w (OutI w zs.reverse) := by
  have HA := Lib.hid ha
  obtain ⟨m, hm⟩ : ∃ m, zs.length = m := ⟨_, rfl⟩
  have hmk := run_make_row' (P := Try.prog) 23 3 (.int .i64 0) 8 Try.underlying23 infoInt rfl .i64 .i64 m (by omega) (by omega)
  have hM := OwnI.made (Below.refl w.heap.size w) m (by omega)
  have hB2 := (Below.refl w.heap.size w).alloc (Nat.le_refl _) (.cells (madeCells #[.int .i64 0] m) 3)
  rw [show List.replicate m (0 : Int) = backTo zs 0 from by rw [backTo_zero, hm]] at hM
  have HM := Lib.hid (And.intro hM hB2)
  have HL := Lib.hid hm
  have m1 : m ≤ 1048576 := by omega
  rw [hm]
  clear hM hB2 ha hm hn
  go_enter Try.func57, Try.ntmps57
  go_wp2_with fail
  clear hmk
  go_loopw [11] (fun i wr => ∃ k : Nat, k ≤ m ∧ i = .int .i64 k ∧ Hid (OwnI wr w.heap.size (.slice (some ⟨w.heap.size, 0, none⟩) m m) (backTo zs k) ∧ Below w.heap.size w wr)) (fun i _ => m - (intOf i).toNat)
  case atStart => exact ⟨0, Nat.zero_le _, rfl, HM.out⟩
  case round =>
    clear HM
    obtain ⟨k, hk, rfl, HR⟩ := hrel
    by_cases hlt : k < m
    · obtain ⟨O, B⟩ := HR.out
      obtain ⟨gc, oc, rfl, x0⟩ := ints_open HA.out (by have := HL.out; omega)
      have x0 := cell_now (x0 k (by have := HL.out; omega)) B
      have hms := backTo_set (zs := zs) (k := k) (by have := HL.out; omega)
      rw [HL.out] at hms
      have hd := O.cell (j := m - 1 - k) (by rw [backTo_len, HL.out]; omega)
      have hf := O.frozen (m - 1 - k)
      have O2 := O.set_ (m - 1 - k) (zs.getD k 0)
      rw [hms] at O2
      have HS := Lib.hid (And.intro O2 (B.setCell (p := ⟨w.heap.size, m - 1 - k, none⟩) (Nat.le_refl _) (.int .i64 (zs.getD k 0))))
      generalize (backTo zs k).getD (m - 1 - k) 0 = y at hd
      generalize zs.getD k 0 = z at *
      obtain ⟨q, hq⟩ : ∃ q : Nat, m - 1 - k = q := ⟨_, rfl⟩
      rw [hq] at hd hf HS
      have wz : IntKind.i64.wrap (IntKind.i64.wrap ((m : Int) - 1) - (k : Int)) = (q : Int) := by rw [IntKind.wrap_i64, IntKind.wrap_i64]; omega
      have wz2 : IntKind.i64.wrap ((m : Int) - 1) = (m : Int) - 1 := by rw [IntKind.wrap_i64]; omega
      have wz3 : IntKind.i64.wrap ((m : Int) - 1 - (k : Int)) = (q : Int) := by rw [IntKind.wrap_i64]; omega
      have wz4 : (m : Int) - 1 - (k : Int) = (q : Int) := by omega
      have k0 : (0 : Int) ≤ (k : Int) := by omega
      have k1 : (k : Int) < (m : Int) := by omega
      have q0 : (0 : Int) ≤ (q : Int) := by omega
      have q1 : (q : Int) < (m : Int) := by omega
      clear O O2 B HR hms hq
      go_wp2_with fail
      go_roundw
      case rel => exact ⟨k + 1, by omega, by go_num, HS.out⟩
      case measure => simp [intOf]; omega
    · obtain rfl : k = m := by omega
      rw [← HL.out, backTo_end] at HR
      rw [HL.out] at HR
      go_wp2_with fail
      go_ret
      exact ⟨_, rfl, HR.out⟩
set_option maxRecDepth 100000 in
set_option maxHeartbeats 4000000 in
/-- impl.EqualLosses -/
theorem iLosses (n : Int) (a : Option Addr) (ca : Nat) (cs : List Int) (w : World) (h : IsInts w a cs) (hn : cs.length ≤ 1048576) :
    Calls Try.prog 25 #[.int .i64 n, .slice a cs.length ca] w (OutI w (lossV n cs)) := by
  have CV := iVC n a ca cs w h hn
  cases hv : vcB n cs with
  | false =>
    rw [loss_no hv]
    rw [hv] at CV
    clear hv h
    go_enter Try.func25, Try.ntmps25
    go_wp2_with fail
    refine CV.mono ?_
    rintro e w' ⟨rfl, rfl⟩
    go_wp2_with fail
    go_ret
    exact outI_nil (Below.refl _ _)
  | true =>
  have hE := loss_gain hv
  rw [hv] at CV
  obtain ⟨v1, v2, v3, v4⟩ := vc_iff.1 hv
  have hs := vc_bd v1 v2
  have hr : vcB (cs.sum - n) cs.reverse = true := by rw [vc_rev]; exact vc_turn hv
  have CS := isum a ca cs w h hn (all_bd v1 (by omega))
  have C1 := iTurned a ca cs w h hn
  have HA := Lib.hid h
  have HCB := Lib.hid (fun i (hi : i < cs.length) => allB_get v1 hi)
  have fr := gain_fair hr
  obtain ⟨R, hR⟩ : ∃ R, cs.reverse = R := ⟨_, rfl⟩
  have lR : R.length = cs.length := by rw [← hR, List.length_reverse]
  have rb : ∀ i, i < R.length → R.getD i 0 ≤ 500 := fun i hi => by rw [← hR]; rw [← hR, List.length_reverse] at hi; rw [revZ_get cs hi]; exact (allB_get v1 (by omega)).2
  rw [hR] at hE C1 hr fr
  obtain ⟨d, hd⟩ : ∃ d, cs.sum - n = d := ⟨_, rfl⟩
  rw [hd] at hE hr fr
  have C2 := fun (b : Option Addr) (c : Nat) (W : World) (hI : IsInts W b R) => iGains d b c R W hI (by omega)
  obtain ⟨G, hG⟩ : ∃ G, gainV d R = G := ⟨_, rfl⟩
  rw [hG] at hE fr
  have C2' : ∀ (b : Option Addr) (c : Nat) (W : World), IsInts W b R → Calls Try.prog 24 #[.int .i64 d, .slice b R.length c] W (OutI W G) := by intro b c W hI; rw [← hG]; exact C2 b c W hI
  have lG : G.length = cs.length := by rw [fr.1, lR]
  have C3 := fun (b : Option Addr) (c : Nat) (W : World) (hI : IsInts W b G) => iTurned b c G W hI (by omega)
  obtain ⟨L, hL⟩ : ∃ L, G.reverse = L := ⟨_, rfl⟩
  rw [hL] at hE C3
  have lL : L.length = cs.length := by rw [← hL, List.length_reverse, lG]
  have HLB : Hid (∀ i, i < cs.length → 0 ≤ L.getD i 0 ∧ L.getD i 0 ≤ 500) := fun i hi => by
    have hi' : i < G.length := by omega
    rw [← hL, revZ_get G hi']
    have x1 := fr.2.2.1 (G.length - 1 - i) (by omega)
    have x2 := rb (G.length - 1 - i) (by omega)
    omega
  have HE := Lib.hid hE
  obtain ⟨m, hm⟩ : ∃ m, cs.length = m := ⟨_, rfl⟩
  have hmk := run_make_row' (P := Try.prog) 23 3 (.int .i64 0) 8 Try.underlying23 infoInt rfl .i64 .i64 m (by omega) (by omega)
  rw [hm] at CV CS C1 ⊢
  have wd : IntKind.i64.wrap (cs.sum - n) = d := by rw [IntKind.wrap_i64]; omega
  have HL := Lib.hid (And.intro hm (lL.trans hm))
  have H1 := Lib.hid C1
  have H2 := Lib.hid C2'
  have H3 := Lib.hid C3
  have m12 : m ≤ 12 := by omega
  generalize cs.sum = S at *
  clear C1 C2 C2' C3 hE fr hr lR rb hR hd hG lG hL lL hm hv v1 v2 v3 v4 h hn hs
  go_enter Try.func25, Try.ntmps25
  go_wp2_with fail
  refine CV.mono ?_
  rintro e w' ⟨rfl, rfl⟩
  clear CV
  go_wp2_with fail
  refine CS.mono ?_
  rintro e w' ⟨rfl, rfl⟩
  clear CS
  go_wp2_with fail
  refine H1.out.mono ?_
  rintro e w1 ⟨v1, rfl, O1, C1⟩
  obtain ⟨b1, c1, rfl, I1⟩ := O1.ints
  clear O1
  go_wp2_with fail
  refine (H2.out b1 c1 _ I1).mono ?_
  rintro e w2 ⟨v2, rfl, O2, C2⟩
  obtain ⟨b2, c2, rfl, I2⟩ := O2.ints
  clear O2 I1
  have B2 := bel_tr C1 C2
  clear C1 C2
  go_wp2_with fail
  refine (H3.out b2 c2 _ I2).mono ?_
  rintro e w3 ⟨v3, rfl, O3, C3⟩
  obtain ⟨b3, c3, rfl, I3⟩ := O3.ints
  clear O3 I2
  have B3 := bel_tr B2 C3
  have hM := OwnI.made B3 m (by omega)
  have hB4 := B3.alloc B3.size (.cells (madeCells #[.int .i64 0] m) 3)
  have I4 := ints_below I3 ((Below.refl _ w3).alloc (Nat.le_refl _) (.cells (madeCells #[.int .i64 0] m) 3))
  rw [show List.replicate m (0 : Int) = mixZ (subZ cs L) 0 from by rw [mix_none (fun i hi hl => by omega), subZ_len, HL.out.1]] at hM
  have HM := Lib.hid (And.intro hM hB4)
  have HI := Lib.hid I3
  have hw3 := B3.size
  rw [HL.out.2]
  clear hM hB4 I3 I4 B3 C3 B2 H1 H2 H3
  go_wp2_with fail
  clear hmk
  go_loopw [26] (fun i wr => ∃ k : Nat, k ≤ m ∧ i = .int .i64 k ∧ Hid (OwnI wr w.heap.size (.slice (some ⟨w3.heap.size, 0, none⟩) m m) (mixZ (subZ cs L) k) ∧ Below w.heap.size w wr ∧ Below w3.heap.size w3 wr)) (fun i _ => m - (intOf i).toNat)
  case atStart => exact ⟨0, Nat.zero_le _, rfl, HM.out.1, HM.out.2, (Below.refl _ w3).alloc (Nat.le_refl _) _⟩
  case round =>
    clear HM
    obtain ⟨k, hk, rfl, HR⟩ := hrel
    by_cases hlt : k < m
    · obtain ⟨O, B, BW⟩ := HR.out
      have hkc : k < cs.length := by have := HL.out; omega
      obtain ⟨gc, oc, rfl, x0⟩ := ints_open HA.out (by omega)
      have x0 := cell_now (x0 k hkc) B
      obtain ⟨gl, ol, rfl, x1⟩ := ints_open HI.out (by have := HL.out; omega)
      have x1 := cell_now (x1 k (by have := HL.out; omega)) BW
      have hms := mix_set (zs := subZ cs L) (k := k) (by rw [subZ_len]; exact hkc)
      rw [subZ_get cs L hkc] at hms
      have hd := O.cell (j := k) (by rw [mix_len, subZ_len]; exact hkc)
      have hf := O.frozen k
      have O2 := O.set_ k (cs.getD k 0 - L.getD k 0)
      rw [hms] at O2
      have b1 := HCB.out k hkc
      have b2 := HLB.out k hkc
      have HS := Lib.hid (And.intro O2 (And.intro (B.setCell (p := ⟨w3.heap.size, k, none⟩) hw3 (.int .i64 (cs.getD k 0 - L.getD k 0))) (BW.setCell (p := ⟨w3.heap.size, k, none⟩) (Nat.le_refl _) (.int .i64 (cs.getD k 0 - L.getD k 0)))))
      generalize (mixZ (subZ cs L) k).getD k 0 = y at hd
      generalize cs.getD k 0 = z at *
      generalize L.getD k 0 = l at *
      have wz : IntKind.i64.wrap (z - l) = z - l := by rw [IntKind.wrap_i64]; omega
      have k0 : (0 : Int) ≤ (k : Int) := by omega
      have k1 : (k : Int) < (m : Int) := by omega
      clear O O2 B BW HR hms hkc
      go_wp2_with fail
      go_roundw
      case rel => exact ⟨k + 1, by omega, by go_num, HS.out⟩
      case measure => simp [intOf]; omega
    · obtain rfl : k = m := by omega
      have O := HR.out.1
      have B := HR.out.2.1
      rw [mix_all (by rw [subZ_len, HL.out.1]; exact Nat.le_refl _), ← HE.out] at O
      have HF := Lib.hid (And.intro O B)
      clear O B HR
      go_wp2_with fail
      go_ret
      exact ⟨_, rfl, HF.out⟩
/-- impl.allEven -/
theorem iEven (a : Option Addr) (ca : Nat) (zs : List Int) (w : World) (ha : IsInts w a zs) (hn : zs.length ≤ 1048576) (hz : allB zs 500 = true) :
    Calls Try.prog 51 #[.slice a zs.length ca] w fun e w' => e = .returned (.bool (evB zs)) ∧ w = w' := by
  have HZ := Lib.hid hz
  have HA := Lib.hid ha
  obtain ⟨m, hm⟩ : ∃ m, zs.length = m := ⟨_, rfl⟩
  rw [hm]
  have HL := Lib.hid hm
  have m1 : m ≤ 1048576 := by omega
  clear hz ha hm hn
  go_enter Try.func51, Try.ntmps51
  go_wp2_with fail
  go_loop [7] (fun i => ∃ k : Nat, k ≤ m ∧ i = .int .i64 k ∧ Hid (∀ j, j < k → zs.getD j 0 % 2 = 0)) (fun i => m - (intOf i).toNat)
  case atStart => exact ⟨0, Nat.zero_le _, rfl, fun j hj => absurd hj (Nat.not_lt_zero _)⟩
  case round =>
    obtain ⟨k, hk, rfl, HE⟩ := hrel
    by_cases hlt : k < m
    · have hkc : k < zs.length := by have := HL.out; omega
      obtain ⟨gc, oc, rfl, x0⟩ := ints_open HA.out (by omega)
      have x0 := x0 k hkc
      have b1 := allB_get HZ.out hkc
      have HY : Hid (zs.getD k 0 % 2 = 0 → ∀ j, j < k + 1 → zs.getD j 0 % 2 = 0) := fun c j hj => by
        by_cases e : j = k
        · subst e; exact c
        · exact HE.out j (by omega)
      have HN : Hid (¬ zs.getD k 0 % 2 = 0 → evB zs = false) := fun c => by
        rw [Bool.eq_false_iff]; exact fun h => c ((ev_iff zs).1 h k hkc)
      generalize zs.getD k 0 = z at *
      have t1 : z.tmod 2 = z % 2 := Int.tmod_eq_emod_of_nonneg b1.1
      have k0 : (0 : Int) ≤ (k : Int) := by omega
      have k1 : (k : Int) < (m : Int) := by omega
      clear hkc
      by_cases c : z % 2 = 0
      · have e1 : (z % 2 != 0) = false := by rw [c]; rfl
        have HQ := Lib.hid (HY.out c)
        clear c
        go_wp2_with fail
        go_round
        case rel => exact ⟨k + 1, by omega, by go_num, HQ.out⟩
        case measure => simp [intOf]; omega
      · have e1 : (z % 2 != 0) = true := by simp; omega
        have HQ := Lib.hid (HN.out c)
        have c' : ¬ z % 2 = 0 := c
        go_wp2_with fail
        go_ret
        exact ⟨ret_bool HQ.out.symm, rfl⟩
    · obtain rfl : k = m := by omega
      have HQ : Hid (evB zs = true) := (ev_iff zs).2 (fun i hi => HE.out i (by have := HL.out; omega))
      go_wp2_with fail
      go_ret
      exact ⟨ret_bool HQ.out.symm, rfl⟩
set_option maxRecDepth 100000 in
set_option maxHeartbeats 4000000 in
/-- impl.halvesOf -/
theorem iHalves (a : Option Addr) (ca : Nat) (zs : List Int) (w : World) (ha : IsInts w a zs) (hn : zs.length ≤ 1048576) (hz : allB zs 500 = true) :
    Calls Try.prog 52 #[.slice a zs.length ca] w (OutI w (hv zs)) := by
  have HA := Lib.hid ha
  have HZ := Lib.hid hz
  obtain ⟨m, hm⟩ : ∃ m, zs.length = m := ⟨_, rfl⟩
  have hmk := run_make_row' (P := Try.prog) 23 3 (.int .i64 0) 8 Try.underlying23 infoInt rfl .i64 .i64 m (by omega) (by omega)
  have hM := OwnI.made (Below.refl w.heap.size w) m (by omega)
  have hB2 := (Below.refl w.heap.size w).alloc (Nat.le_refl _) (.cells (madeCells #[.int .i64 0] m) 3)
  rw [show List.replicate m (0 : Int) = mixZ (hv zs) 0 from by rw [mix_none (fun i hi hl => by omega), hv_len, hm]] at hM
  have HM := Lib.hid (And.intro hM hB2)
  have HL := Lib.hid hm
  have m1 : m ≤ 1048576 := by omega
  rw [hm]
  clear hM hB2 ha hm hn hz
  go_enter Try.func52, Try.ntmps52
  go_wp2_with fail
  clear hmk
  go_loopw [11] (fun i wr => ∃ k : Nat, k ≤ m ∧ i = .int .i64 k ∧ Hid (OwnI wr w.heap.size (.slice (some ⟨w.heap.size, 0, none⟩) m m) (mixZ (hv zs) k) ∧ Below w.heap.size w wr)) (fun i _ => m - (intOf i).toNat)
  case atStart => exact ⟨0, Nat.zero_le _, rfl, HM.out⟩
  case round =>
    clear HM
    obtain ⟨k, hk, rfl, HR⟩ := hrel
    by_cases hlt : k < m
    · obtain ⟨O, B⟩ := HR.out
      have hkc : k < zs.length := by have := HL.out; omega
      obtain ⟨gc, oc, rfl, x0⟩ := ints_open HA.out (by omega)
      have x0 := cell_now (x0 k hkc) B
      have hms := mix_set (zs := hv zs) (k := k) (by rw [hv_len]; exact hkc)
      rw [hv_get zs hkc] at hms
      have hd := O.cell (j := k) (by rw [mix_len, hv_len]; exact hkc)
      have hf := O.frozen k
      have O2 := O.set_ k (zs.getD k 0 / 2)
      rw [hms] at O2
      have b1 := allB_get HZ.out hkc
      have HS := Lib.hid (And.intro O2 (B.setCell (p := ⟨w.heap.size, k, none⟩) (Nat.le_refl _) (.int .i64 (zs.getD k 0 / 2))))
      generalize (mixZ (hv zs) k).getD k 0 = y at hd
      generalize zs.getD k 0 = z at *
      have t1 : z.tdiv 2 = z / 2 := Int.tdiv_eq_ediv_of_nonneg b1.1
      have wz : IntKind.i64.wrap (z / 2) = z / 2 := by rw [IntKind.wrap_i64]; omega
      have k0 : (0 : Int) ≤ (k : Int) := by omega
      have k1 : (k : Int) < (m : Int) := by omega
      clear O O2 B HR hms hkc
      go_wp2_with fail
      go_roundw
      case rel => exact ⟨k + 1, by omega, by go_num, HS.out⟩
      case measure => simp [intOf]; omega
    · obtain rfl : k = m := by omega
      rw [mix_all (by rw [hv_len, HL.out]; exact Nat.le_refl _)] at HR
      go_wp2_with fail
      go_ret
      exact ⟨_, rfl, HR.out⟩
end Go.Proofs.Ytojkgabkiagjdac
