/- Claims by the program: orders, and by turns. Condition: at most 1048576 numbers. -/
import Derived.Test.YtojkgabkiagjdacClmJ
import Derived.Test.YtojkgabkiagjdacClmO
namespace Go.Proofs.Ytojkgabkiagjdac
open Go.RowKit
set_option linter.unusedSimpArgs false
set_option linter.unusedVariables false
theorem ints_takeN {w : World} {a : Option Addr} {zs : List Int} (h : IsInts w a zs) (k : Nat) : IsInts w a (zs.take k) := by
  rcases h with rfl | ⟨g, o, ha, hc⟩
  · exact .inl (by simp)
  · refine .inr ⟨g, o, ha, fun i hi => ?_⟩
    rw [List.length_take] at hi
    have e : (zs.take k).getD i 0 = zs.getD i 0 := by rw [List.getD_eq_getElem?_getD, List.getD_eq_getElem?_getD, List.getElem?_take_of_lt (by omega)]
    rw [e]; exact hc i (by omega)
theorem mem_getN {zs : List Int} {n : Int} : n ∈ zs ↔ ∃ j, j < zs.length ∧ zs.getD j 0 = n := by
  constructor
  · intro h
    obtain ⟨i, hi, e⟩ := List.getElem_of_mem h
    exact ⟨i, hi, by rw [List.getD_eq_getElem?_getD, List.getElem?_eq_getElem hi]; exact e⟩
  · rintro ⟨j, hj, e⟩
    rw [← e]; exact getD_mem hj

set_option maxHeartbeats 1000000 in
theorem ihasN (a : Option Addr) (cap m : Nat) (zs : List Int) (n : Int) (w : World) (h : IsInts w a zs) (hl : zs.length = m) (hn : m ≤ 1048576) :
    Calls Try.prog 66 #[.slice a m cap, .int .i64 n] w fun e w' => e = .returned (.bool (decide (n ∈ zs))) ∧ w = w' := by
  subst hl
  rcases h with rfl | ⟨g, o, rfl, hc⟩
  · go_enter Try.func66, Try.ntmps66
    go_wp2
    go_rounds 1
    go_ret
    exact ⟨rfl, rfl⟩
  · have HC := Lib.hid hc
    clear hc
    go_enter Try.func66, Try.ntmps66
    go_wp2
    go_loop [9] (fun i => ∃ k : Nat, k ≤ zs.length ∧ i = .int .i64 k ∧ Hid (∀ j, j < k → zs.getD j 0 ≠ n)) (fun i => zs.length - (intOf i).toNat)
    case atStart => exact ⟨0, Nat.zero_le _, rfl, fun j hj => by omega⟩
    case round =>
      obtain ⟨k, hk, rfl, HK⟩ := hrel
      by_cases hlt : k < zs.length
      · have hc := HC.out k hlt
        have hy : zs.getD k 0 ≠ n → ∀ j, j < k + 1 → zs.getD j 0 ≠ n := fun e j hj => by
          by_cases ej : j = k
          · subst ej; exact e
          · exact HK.out j (by omega)
        have hm : zs.getD k 0 = n → decide (n ∈ zs) = true := fun e => decide_eq_true (mem_getN.2 ⟨k, hlt, e⟩)
        generalize zs.getD k 0 = z at hc hy hm
        have HY := Lib.hid hy
        have HM := Lib.hid hm
        clear hy hm
        by_cases e : z = n
        · have eb : (z == n) = true := by simpa using e
          have HMM := Lib.hid (HM.out e)
          clear e
          go_wp2_with fail
          go_ret
          exact ⟨ret_bool HMM.out.symm, rfl⟩
        · have eb : (z == n) = false := by simpa using e
          go_wp2_with fail
          go_round
          case rel => exact ⟨k + 1, by omega, by go_num, HY.out e⟩
          case measure => simp [intOf]; omega
      · have HN : Hid (decide (n ∈ zs) = false) := by
          show _ = _
          rw [decide_eq_false_iff_not, mem_getN]
          rintro ⟨j, hj, e⟩
          exact HK.out j (by omega) e
        go_wp2_with fail
        go_ret
        exact ⟨ret_bool HN.out.symm, rfl⟩
theorem has_noN {n : Nat} {r : List Int} {k : Nat} (hk : k < n) (h : (k : Int) ∉ r) : hasB n r = false := by
  unfold hasB
  rw [Bool.and_eq_false_iff]
  exact .inr (rng_no hk (decide_eq_false h))
theorem has_lenN {n : Nat} {r : List Int} (h : r.length ≠ n) : hasB n r = false := by
  unfold hasB; rw [decide_eq_false h]; rfl
theorem has_yesN {n : Nat} {r : List Int} (h : r.length = n) (h2 : ∀ k : Nat, k < n → (k : Int) ∈ r) : hasB n r = true := by
  unfold hasB; rw [decide_eq_true h, rng_yes fun j hj => decide_eq_true (h2 j hj)]; rfl

set_option maxHeartbeats 2000000 in
theorem iordN (A : Option Addr) (cap m n : Nat) (r : List Int) (w : World) (h : IsInts w A r) (hl : r.length = m) (hn : n ≤ 1048576) :
    Calls Try.prog 42 #[.slice A m cap, .int .i64 (n : Int)] w fun e w' => e = .returned (.bool (hasB n r)) ∧ w = w' := by
  by_cases e : m = n
  · subst e
    have HH := fun i W => ihasN A cap m r i W
    have HI := Lib.hid h
    have HL := Lib.hid hl
    clear h hl
    go_enter Try.func42, Try.ntmps42
    go_wp2_with fail
    go_loopw [5] (fun i wr => ∃ k : Nat, k ≤ m ∧ i = .int .i64 k ∧ (∀ j : Nat, j < k → (j : Int) ∈ r) ∧ wr = w) (fun i _ => m - (intOf i).toNat)
    case atStart => exact ⟨0, Nat.zero_le _, rfl, fun j hj => absurd hj (Nat.not_lt_zero _), rfl⟩
    case round =>
      obtain ⟨k, hk, rfl, hall, rfl⟩ := hrel
      by_cases hlt : k < m
      · have HC := HH (k : Int) wr HI.out HL.out hn
        by_cases hm : (k : Int) ∈ r
        · rw [decide_eq_true hm] at HC
          have H2 : Hid (∀ j : Nat, j < k + 1 → (j : Int) ∈ r) := fun j hj => by
            by_cases c : j = k
            · subst c; exact hm
            · exact hall j (by omega)
          clear HH hall hm
          go_wp2_with fail
          refine HC.mono ?_
          rintro e w' ⟨rfl, rfl⟩
          clear HC
          go_wp2_with fail
          go_roundw
          case rel => exact ⟨k + 1, by omega, by go_num, H2.out, by trivial⟩
          case measure => simp [intOf]; omega
        · rw [decide_eq_false hm] at HC
          have HN := Lib.hid (has_noN hlt hm)
          clear HH hall hm
          go_wp2_with fail
          refine HC.mono ?_
          rintro e w' ⟨rfl, rfl⟩
          clear HC
          go_wp2_with fail
          go_ret
          exact ⟨ret_bool HN.out.symm, rfl⟩
      · obtain rfl : k = m := by omega
        have HN := Lib.hid (has_yesN HL.out hall)
        clear HH hall
        go_wp2_with fail
        go_ret
        exact ⟨ret_bool HN.out.symm, rfl⟩
  · have e1 : ((m : Int) != (n : Int)) = true := by simp; omega
    have HN := Lib.hid (has_lenN (n := n) (r := r) (by rw [hl]; exact e))
    clear e h hl
    go_enter Try.func42, Try.ntmps42
    go_wp2_with fail
    go_ret
    exact ⟨ret_bool HN.out.symm, rfl⟩

theorem iLesserN (a b : Int) (w : World) :
    Calls Try.prog 43 #[.int .i64 a, .int .i64 b] w fun e w' => e = .returned (.int .i64 (min a b)) ∧ w = w' := by
  by_cases h : a < b
  · have e : min a b = a := by omega
    rw [e]
    clear e
    go_enter Try.func43, Try.ntmps43
    go_wp2
    go_ret
    exact ⟨rfl, rfl⟩
  · have e : min a b = b := by omega
    rw [e]
    clear e
    go_enter Try.func43, Try.ntmps43
    go_wp2
    go_ret
    exact ⟨rfl, rfl⟩
theorem it_no1 {n : Int} {cs os : List Int} (h : vcB n cs = false) : itB n cs os = false := by unfold itB; rw [h]; rfl
theorem it_no2 {n : Int} {cs os : List Int} (h : ordB cs.length os = false) : itB n cs os = false := by unfold itB; rw [h]; simp
set_option maxRecDepth 100000 in
set_option maxHeartbeats 4000000 in
/-- impl.InTurn -/
theorem iInTurn (n : Int) (a b : Option Addr) (ca cb m : Nat) (cs os : List Int) (w : World) (h : IsInts w a cs) (h2 : IsInts w b os) (hn : cs.length ≤ 1048576) (hm2 : os.length = m) (hn2 : m ≤ 1048576) :
    Calls Try.prog 12 #[.int .i64 n, .slice a cs.length ca, .slice b m cb] w (OutI w (inV n cs os)) := by
  have CV := iVC n a ca cs w h hn
  cases hv : vcB n cs with
  | false =>
    rw [inV_no (it_no1 hv)]
    rw [hv] at CV
    clear hv h h2
    go_enter Try.func12, Try.ntmps12
    go_wp2_with fail
    refine CV.mono ?_
    rintro e w' ⟨rfl, rfl⟩
    go_wp2_with fail
    go_ret
    exact outI_nil (Below.refl _ _)
  | true =>
  rw [hv] at CV
  have CO := iordN b cb m cs.length os w h2 hm2 hn
  rw [has_ord] at CO
  cases ho : ordB cs.length os with
  | false =>
    rw [inV_no (it_no2 ho)]
    rw [ho] at CO
    clear hv ho h h2 hm2
    go_enter Try.func12, Try.ntmps12
    go_wp2_with fail
    refine CV.mono ?_
    rintro e w' ⟨rfl, rfl⟩
    go_wp2_with fail
    refine CO.mono ?_
    rintro e w' ⟨rfl, rfl⟩
    go_wp2_with fail
    go_ret
    exact outI_nil (Below.refl _ _)
  | true =>
  rw [ho] at CO
  rw [inV_yes (it_yes hv ho)]
  obtain ⟨v1, v2, v3, v4⟩ := vc_iff.1 hv
  obtain ⟨o1, o2, o3⟩ := (ordB_iff _ os).1 ho
  have hs := vc_bd v1 v2
  have HA := Lib.hid h
  have HB := Lib.hid h2
  have HCB := Lib.hid (fun i (hi : i < cs.length) => allB_get v1 hi)
  have HLF := Lib.hid (fun k => turn_left cs (n := n) v3 (fun i => clF_nn v1 i) os k)
  have HOB := Lib.hid (fun k (hk : k < os.length) => o3 _ (getD_mem hk))
  have hml : m = cs.length := by omega
  subst hml
  obtain ⟨m, hm⟩ : ∃ m, cs.length = m := ⟨_, rfl⟩
  have hmk := run_make_row' (P := Try.prog) 23 3 (.int .i64 0) 8 Try.underlying23 infoInt rfl .i64 .i64 m (by omega) (by omega)
  have hM := OwnI.made (Below.refl w.heap.size w) m (by omega)
  have hB2 := (Below.refl w.heap.size w).alloc (Nat.le_refl _) (.cells (madeCells #[.int .i64 0] m) 3)
  rw [show List.replicate m (0 : Int) = (turnG cs n os 0).1 from by rw [← hm]; rfl] at hM
  have HM := Lib.hid (And.intro hM hB2)
  have HL : Hid (cs.length = m ∧ os.length = m) := ⟨hm, by omega⟩
  have m12 : m ≤ 12 := by omega
  have n6 : n ≤ 6000 := by omega
  rw [hm] at CV CO ⊢
  clear hM hB2 hm hm2 hv ho v1 v2 v4 o1 o2 o3 hs h h2 hn
  go_enter Try.func12, Try.ntmps12
  go_wp2_with fail
  refine CV.mono ?_
  rintro e w' ⟨rfl, rfl⟩
  clear CV
  go_wp2_with fail
  refine CO.mono ?_
  rintro e w' ⟨rfl, rfl⟩
  clear CO
  go_wp2_with fail
  clear hmk
  go_loopw [8, 28] (fun l i wr => ∃ k : Nat, k ≤ m ∧ i = .int .i64 k ∧ l = .int .i64 (turnG cs n os k).2 ∧ Hid (OwnI wr w.heap.size (.slice (some ⟨w.heap.size, 0, none⟩) m m) (turnG cs n os k).1 ∧ Below w.heap.size w wr)) (fun _ i _ => m - (intOf i).toNat)
  case atStart => exact ⟨0, Nat.zero_le _, rfl, rfl, HM.out⟩
  case round =>
    clear HM
    obtain ⟨k, hk, rfl, rfl, HR⟩ := hrel
    by_cases hlt : k < m
    · obtain ⟨O, B⟩ := HR.out
      have hko : k < os.length := by have := HL.out; omega
      obtain ⟨x0, x1⟩ := HOB.out k hko
      obtain ⟨go, oo, rfl, c0⟩ := ints_open HB.out (by omega)
      have c0 := cell_now (c0 k hko) B
      obtain ⟨q, hq⟩ : ∃ q : Nat, os.getD k 0 = (q : Int) := ⟨(os.getD k 0).toNat, by omega⟩
      have hqc : q < cs.length := by omega
      obtain ⟨gc, oc, rfl, c1⟩ := ints_open HA.out (by omega)
      have c1 := cell_now (c1 q hqc) B
      have lf := HLF.out k
      have b1 := HCB.out q hqc
      have lt := turn_len cs n os k
      have hd := O.cell (j := q) (by omega)
      have hf := O.frozen q
      have e1 : (turnG cs n os (k + 1)).1 = (turnG cs n os k).1.set q (min (turnG cs n os k).2 (cs.getD q 0)) := by
        show List.set _ _ _ = _
        rw [hq, show ((q : Int)).toNat = q by omega]
      have e2 : (turnG cs n os (k + 1)).2 = (turnG cs n os k).2 - min (turnG cs n os k).2 (cs.getD q 0) := by
        show _ - min _ _ = _
        rw [hq, show ((q : Int)).toNat = q by omega]
      have O2 := O.set_ q (min (turnG cs n os k).2 (cs.getD q 0))
      rw [← e1] at O2
      have hd2 := O2.cell (j := q) (by rw [turn_len]; exact hqc)
      rw [e1, getD_setZ q _ (by omega), if_pos rfl] at hd2
      have HS := Lib.hid (And.intro O2 (B.setCell (p := ⟨w.heap.size, q, none⟩) (Nat.le_refl _) (.int .i64 (min (turnG cs n os k).2 (cs.getD q 0)))))
      have HE2 := Lib.hid e2
      rw [hq] at c0
      generalize (turnG cs n os k).1.getD q 0 = y at hd
      generalize (turnG cs n os k).2 = l at *
      generalize cs.getD q 0 = z at *
      have CM := fun W => iLesserN z l W
      have mb : 0 ≤ min l z ∧ min l z ≤ l := by omega
      rw [show min z l = min l z by omega] at CM
      generalize min l z = v at *
      have wz : IntKind.i64.wrap (l - v) = l - v := by rw [IntKind.wrap_i64]; omega
      have k0 : (0 : Int) ≤ (k : Int) := by omega
      have k1 : (k : Int) < (m : Int) := by omega
      have q0 : (0 : Int) ≤ (q : Int) := by omega
      have q1 : (q : Int) < (m : Int) := by have := HL.out; omega
      clear O O2 B HR e1 e2 hq hko hqc x0 x1 lt
      go_wp2_with fail
      refine (CM _).mono ?_
      rintro e w' ⟨rfl, rfl⟩
      clear CM
      go_wp2_with fail
      go_roundw
      case rel => exact ⟨k + 1, by omega, by go_num, by rw [HE2.out], HS.out⟩
      case measure => simp [intOf]; omega
    · obtain rfl : k = m := by omega
      have HF : Hid (OwnI wr w.heap.size (.slice (some ⟨w.heap.size, 0, none⟩) k k) (turnV n cs os) ∧ Below w.heap.size w wr) := by
        have e : turnV n cs os = (turnG cs n os k).1 := by unfold turnV; rw [HL.out.2]
        show _ ∧ _
        rw [e]; exact HR.out
      clear HR
      go_wp2_with fail
      go_ret
      exact ⟨_, rfl, HF.out⟩
end Go.Proofs.Ytojkgabkiagjdac
