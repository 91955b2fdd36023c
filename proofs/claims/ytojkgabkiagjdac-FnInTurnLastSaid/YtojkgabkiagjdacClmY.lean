/- Claims by the model: orders, and by turns. Condition: at most 1048576 numbers. -/
import Derived.Test.YtojkgabkiagjdacClmS
import Derived.Test.YtojkgabkiagjdacClmN
import Derived.Test.YtojkgabkiagjdacClmK
import Derived.Deep.RegionHeld3
namespace Go.Proofs.Ytojkgabkiagjdac
open Go.RowKit
set_option linter.unusedSimpArgs false
set_option linter.unusedVariables false
/-- the place of a number from the place k on, -1 where it isn't there -/
def plcFN : List Int → Int → Nat → Int
  | [], _, _ => -1
  | h :: t, x, k => if h = x then (k : Int) else plcFN t x (k + 1)
def plcVN (r : List Int) (x : Int) : Int := plcFN r x 0
theorem plcFN_at (x : Int) : ∀ (r : List Int) (b k : Nat), k < r.length → (∀ j, j < k → r.getD j 0 ≠ x) → r.getD k 0 = x → plcFN r x b = ((b + k : Nat) : Int) := by
  intro r
  induction r with
  | nil => intro b k h; exact absurd h (Nat.not_lt_zero _)
  | cons h t ih =>
    intro b k hk hno he
    cases k with
    | zero =>
      have he' : h = x := he
      show (if h = x then (b : Int) else _) = _
      rw [if_pos he']; rfl
    | succ k =>
      have h0 : h ≠ x := hno 0 (by omega)
      show (if h = x then (b : Int) else plcFN t x (b + 1)) = _
      rw [if_neg h0, ih (b + 1) k (by simpa using hk) (fun j hj => hno (j + 1) (by omega)) he]
      congr 1; omega
theorem plcFN_no (x : Int) : ∀ (r : List Int) (b : Nat), (∀ j, j < r.length → r.getD j 0 ≠ x) → plcFN r x b = -1 := by
  intro r
  induction r with
  | nil => intro b _; rfl
  | cons h t ih =>
    intro b hno
    have h0 : h ≠ x := hno 0 (by simp)
    show (if h = x then (b : Int) else plcFN t x (b + 1)) = _
    rw [if_neg h0]
    exact ih (b + 1) (fun j hj => hno (j + 1) (by simpa using hj))
theorem plcN_at {r : List Int} {x : Int} {k : Nat} (hk : k < r.length) (hno : ∀ j, j < k → r.getD j 0 ≠ x) (he : r.getD k 0 = x) : plcVN r x = (k : Int) := by
  unfold plcVN; rw [plcFN_at x r 0 k hk hno he, Nat.zero_add]
theorem plcN_no {r : List Int} {x : Int} (hno : ∀ j, j < r.length → r.getD j 0 ≠ x) : plcVN r x = -1 := plcFN_no x r 0 hno
theorem ret_plcN {z y : Int} (h : z = y) : Ending.returned (.int .i64 z) = Ending.returned (.int .i64 y) := by rw [h]

set_option maxHeartbeats 1000000 in
theorem splaceN (a : Option Addr) (cap m : Nat) (zs : List Int) (n : Int) (w : World) (h : IsInts w a zs) (hl : zs.length = m) (hn : m ≤ 1048576) :
    Calls Try.prog 67 #[.slice a m cap, .int .i64 n] w fun e w' => e = .returned (.int .i64 (plcVN zs n)) ∧ w = w' := by
  subst hl
  rcases h with rfl | ⟨g, o, rfl, hc⟩
  · go_enter Try.func67, Try.ntmps67
    go_wp2
    go_rounds 1
    go_ret
    exact ⟨rfl, rfl⟩
  · have HC := Lib.hid hc
    clear hc
    go_enter Try.func67, Try.ntmps67
    go_wp2
    go_loop [5] (fun i => ∃ k : Nat, k ≤ zs.length ∧ i = .int .i64 k ∧ Hid (∀ j, j < k → zs.getD j 0 ≠ n)) (fun i => zs.length - (intOf i).toNat)
    case atStart => exact ⟨0, Nat.zero_le _, rfl, fun j hj => by omega⟩
    case round =>
      obtain ⟨k, hk, rfl, HK⟩ := hrel
      by_cases hlt : k < zs.length
      · have hc := HC.out k hlt
        obtain ⟨x, hx⟩ : ∃ x, zs.getD k 0 = x := ⟨_, rfl⟩
        have HX := Lib.hid hx
        rw [hx] at hc
        clear hx
        by_cases e : x = n
        · have HP := Lib.hid (plcN_at hlt HK.out (HX.out.trans e))
          have e9 : (x == n) = true := by simpa using e
          clear e
          go_wp2
          go_ret
          exact ⟨ret_plcN HP.out.symm, rfl⟩
        · have e9 : (x == n) = false := by simpa using e
          have H2 : Hid (∀ j, j < k + 1 → zs.getD j 0 ≠ n) := fun j hj => by
            by_cases ej : j = k
            · subst ej; rw [HX.out]; exact e
            · exact HK.out j (by omega)
          clear e
          go_wp2
          go_round
          case rel => exact ⟨k + 1, by omega, by go_num, H2⟩
          case measure => simp [intOf]; omega
      · obtain rfl : k = zs.length := by omega
        have HP := Lib.hid (plcN_no HK.out)
        go_wp2
        go_ret
        exact ⟨ret_plcN HP.out.symm, rfl⟩

theorem ord_noN {n : Nat} {r : List Int} {k : Nat} (hk : k < r.length) (h : okW n r k = false) : ordB n r = false := by
  unfold ordB
  rw [Bool.and_eq_false_iff]
  exact .inr (rng_no hk h)
theorem ord_lenN {n : Nat} {r : List Int} (h : r.length ≠ n) : ordB n r = false := by unfold ordB; rw [decide_eq_false h]; rfl
theorem ord_yesN {n : Nat} {r : List Int} (h : r.length = n) (h2 : ∀ k, k < r.length → okW n r k = true) : ordB n r = true := by
  unfold ordB; rw [decide_eq_true h, rng_yes h2]; rfl
theorem okW_yesN {n : Nat} {r : List Int} {k : Nat} (h1 : 0 ≤ r.getD k 0) (h2 : r.getD k 0 < (n : Int)) (h3 : r.getD k 0 ∉ r.take k) : okW n r k = true := by
  unfold okW; rw [decide_eq_true h1, decide_eq_true h2, decide_eq_true h3]; rfl
theorem okW_no1N {n : Nat} {r : List Int} {k : Nat} (h : r.getD k 0 < 0 ∨ (n : Int) ≤ r.getD k 0) : okW n r k = false := by
  unfold okW
  rcases h with h | h
  · rw [decide_eq_false (by omega)]; rfl
  · rw [decide_eq_false (by omega : ¬ r.getD k 0 < (n : Int)), Bool.and_false]; rfl
theorem okW_no2N {n : Nat} {r : List Int} {k : Nat} (h : r.getD k 0 ∈ r.take k) : okW n r k = false := by
  unfold okW
  rw [decide_eq_false (show ¬ (r.getD k 0 ∉ r.take k) from fun c => c h), Bool.and_false]
set_option maxRecDepth 100000 in
set_option maxHeartbeats 4000000 in
/-- spec.validOrder -/
theorem svord (b : Option Addr) (cb m n : Nat) (os : List Int) (w : World) (h : IsInts w b os) (hl : os.length = m) (hc : m ≤ cb) (hm : m ≤ 1048576) (hn : n ≤ 1048576) :
    Calls Try.prog 45 #[.slice b m cb, .int .i64 (n : Int)] w fun e w' => e = .returned (.bool (ordB n os)) ∧ Below w.heap.size w w' := by
  have HA := Lib.hid h
  have HL := Lib.hid hl
  clear h hl
  go_enter Try.func45, Try.ntmps45
  go_wp2_with fail
  go_loopw [5] (fun i wr => ∃ k : Nat, k ≤ m ∧ i = .int .i64 k ∧ Hid (∀ j, j < k → okW n os j = true) ∧ Below w.heap.size w wr) (fun i _ => m - (intOf i).toNat)
  case atStart => exact ⟨0, Nat.zero_le _, rfl, fun j hj => absurd hj (Nat.not_lt_zero _), Below.refl _ _⟩
  case round =>
    obtain ⟨k, hk, rfl, HE, hB⟩ := hrel
    by_cases hlt : k < m
    · have hko : k < os.length := by have := HL.out; omega
      have IK := ints_takeN (ints_below HA.out hB) k
      obtain ⟨go, oo, rfl, x0⟩ := ints_open HA.out (by omega)
      have x0 := cell_now (x0 k hko) hB
      have lk : (os.take k).length = k := by rw [List.length_take]; omega
      have k0 : (0 : Int) ≤ (k : Int) := by omega
      have k1 : (k : Int) < (m : Int) := by omega
      have k2 : (k : Int) ≤ (cb : Int) := by omega
      have wn : IntKind.i64.wrap ((n : Int) - 1) = (n : Int) - 1 := by rw [IntKind.wrap_i64]; omega
      have HN1 : Hid (os.getD k 0 < 0 ∨ (n : Int) ≤ os.getD k 0 → ordB n os = false) := fun c => ord_noN hko (okW_no1N c)
      have HN2 : Hid (os.getD k 0 ∈ os.take k → ordB n os = false) := fun c => ord_noN hko (okW_no2N c)
      have HY : Hid (0 ≤ os.getD k 0 → os.getD k 0 < (n : Int) → os.getD k 0 ∉ os.take k → ∀ j, j < k + 1 → okW n os j = true) := fun c1 c2 c3 j hj => by
        by_cases e : j = k
        · subst e; exact okW_yesN c1 c2 c3
        · exact HE.out j (by omega)
      have KPX := fun (W : World) (j : Nat) (x : Int) (hI : IsInts W (some ⟨go, oo, none⟩) (os.take k)) => splaceN (some ⟨go, oo, none⟩) cb k (os.take k) x W hI lk (by omega)
      have PV : (os.getD k 0 ∈ os.take k ∧ ∃ q : Nat, plcVN (os.take k) (os.getD k 0) = (q : Int)) ∨ (os.getD k 0 ∉ os.take k ∧ plcVN (os.take k) (os.getD k 0) = -1) := by
        by_cases c : os.getD k 0 ∈ os.take k
        · refine .inl ⟨c, ?_⟩
          generalize os.take k = ts at *
          generalize os.getD k 0 = x at *
          have : ∃ j, j < ts.length ∧ ts.getD j 0 = x := mem_getN.1 c
          have hh : ∀ q, (∃ j, j < q ∧ j < ts.length ∧ ts.getD j 0 = x) → ∃ j, j < ts.length ∧ ts.getD j 0 = x ∧ ∀ i, i < j → ts.getD i 0 ≠ x := by
            intro q
            induction q with
            | zero => rintro ⟨j, h, _⟩; omega
            | succ q ih =>
              rintro ⟨j, h1, h2, h3⟩
              by_cases d : ∃ i, i < q ∧ i < ts.length ∧ ts.getD i 0 = x
              · exact ih d
              · exact ⟨j, h2, h3, fun i hi e => d ⟨i, by omega, by omega, e⟩⟩
          obtain ⟨j, h1, h2⟩ := this
          obtain ⟨j, h1, h2, h3⟩ := hh (j + 1) ⟨j, by omega, h1, h2⟩
          exact ⟨j, plcN_at h1 h3 h2⟩
        · exact .inr ⟨c, plcN_no (fun j hj e => c (mem_getN.2 ⟨j, hj, e⟩))⟩
      have KPY := fun (W : World) (j : Nat) (hB2 : Below w.heap.size w W) => KPX W j (os.getD k 0) (ints_takeN (ints_below HA.out hB2) k)
      obtain ⟨pv, hpv⟩ : ∃ pv, plcVN (os.take k) (os.getD k 0) = pv := ⟨_, rfl⟩
      rw [hpv] at PV KPY
      obtain ⟨mem, hmem⟩ : ∃ mem, decide (os.getD k 0 ∈ os.take k) = mem := ⟨_, rfl⟩
      have HMEM := Lib.hid hmem
      have HPV := Lib.hid PV
      generalize os.getD k 0 = x at *
      have HKP := Lib.hid KPY
      clear IK hko lk KPX KPY PV hpv hmem
      by_cases c : x < 0 ∨ (n : Int) - 1 < x
      · have HQ := Lib.hid (HN1.out (by omega))
        have KR := Lib.hid (fun (W : World) (j : Nat) => Calls.quiet_of_same (w := W) (n := j) ((inRange_no x 0 ((n : Int) - 1) _ c).mono (fun _ _ h => ⟨h.1, h.2.symm⟩)))
        clear c
        go_wp2_with fail
        go_quiet (first | (go_at_call_of 61 (Value.int .i64 x); exact KR.out _ _))
        go_wp2
        go_ret
        exact ⟨ret_bool HQ.out.symm, below_drewN hB _⟩
      · have c0 : 0 ≤ x := by omega
        have c1 : x ≤ (n : Int) - 1 := by omega
        have KR := Lib.hid (fun (W : World) (j : Nat) => Calls.quiet_of_same (w := W) (n := j) ((inRange_yes x 0 ((n : Int) - 1) _ c0 c1).mono (fun _ _ h => ⟨h.1, h.2.symm⟩)))
        have KP := Lib.hid (fun (j : Nat) => Calls.quiet_of_same (w := wr) (n := j) ((HKP.out _ 0 (below_drewN hB j)).mono (fun _ _ h => ⟨h.1, h.2.symm⟩)))
        clear c HKP
        rcases HPV.out with ⟨hm1, q, hq⟩ | ⟨hm1, hq⟩
        · have HQ := Lib.hid (HN2.out hm1)
          subst hq
          have e1 : decide ((q : Int) ≥ 0) = true := decide_eq_true (by omega)
          have e2 : (0 : Int) ≤ (q : Int) := by omega
          clear hm1
          go_wp2_with fail
          go_quiet (first | (go_at_call_of 61 (Value.int .i64 x); exact KR.out _ _) | (go_at_call_of 67 (Value.slice (some ⟨go, oo, none⟩) k cb); exact KP.out _))
          go_wp2
          go_ret
          exact ⟨ret_bool HQ.out.symm, below_drewN hB _⟩
        · have HQ := Lib.hid (HY.out c0 (by omega) hm1)
          subst hq
          clear hm1
          go_wp2_with fail
          go_quiet (first | (go_at_call_of 61 (Value.int .i64 x); exact KR.out _ _) | (go_at_call_of 67 (Value.slice (some ⟨go, oo, none⟩) k cb); exact KP.out _))
          go_wp2
          go_roundw
          case rel => exact ⟨k + 1, by omega, by go_num, HQ.out, below_drewN hB _⟩
          case measure => simp [intOf]; omega
    · obtain rfl : k = m := by omega
      by_cases hkn : k = n
      · have e1 : ((k : Int) == (n : Int)) = true := by rw [beq_iff_eq]; omega
        have HQ : Hid (ordB n os = true) := ord_yesN (by have := HL.out; omega) (fun j hj => HE.out j (by have := HL.out; omega))
        subst hkn
        go_wp2_with fail
        go_ret
        exact ⟨ret_bool HQ.out.symm, hB⟩
      · have e1 : ((k : Int) == (n : Int)) = false := by rw [beq_eq_false_iff_ne]; omega
        have e2 : ¬ (k : Int) = (n : Int) := by omega
        have HQ : Hid (ordB n os = false) := ord_lenN (by have := HL.out; omega)
        clear hkn
        go_wp2_with fail
        go_ret
        exact ⟨ret_bool HQ.out.symm, hB⟩
set_option maxRecDepth 100000 in
set_option maxHeartbeats 4000000 in
/-- spec.inTurn -/
theorem sinTurn (n : Int) (a b : Option Addr) (ca cb m : Nat) (cs os : List Int) (w : World) (h : IsInts w a cs) (h2 : IsInts w b os) (hv : vcB n cs = true) (ho : ordB cs.length os = true) (hm0 : os.length = m) :
    Calls Try.prog 46 #[.int .i64 n, .slice a cs.length ca, .slice b m cb] w (OutI w (turnV n cs os)) := by
  obtain ⟨v1, v2, v3, v4⟩ := vc_iff.1 hv
  obtain ⟨o1, o2, o3⟩ := (ordB_iff _ os).1 ho
  have hs := vc_bd v1 v2
  have HA := Lib.hid h
  have HB := Lib.hid h2
  have HCB := Lib.hid (fun i (hi : i < cs.length) => allB_get v1 hi)
  have HLF := Lib.hid (fun k => turn_left cs (n := n) v3 (fun i => clF_nn v1 i) os k)
  have HOB := Lib.hid (fun k (hk : k < os.length) => o3 _ (getD_mem hk))
  have hml : m = cs.length := by omega
  subst hml
  obtain ⟨m, hm⟩ : ∃ m, cs.length = m := ⟨_, rfl⟩
  have hmk := run_make_row' (P := Try.prog) 23 3 (.int .i64 0) 8 Try.underlying23 infoInt rfl .i64 .i64 m (by omega) (by omega)
  have hM := OwnI.made (Below.refl w.heap.size w) m (by omega)
  have hB2 := (Below.refl w.heap.size w).alloc (Nat.le_refl _) (.cells (madeCells #[.int .i64 0] m) 3)
  rw [show List.replicate m (0 : Int) = (turnG cs n os 0).1 from by rw [← hm]; rfl] at hM
  have HM := Lib.hid (And.intro hM hB2)
  have HL : Hid (cs.length = m ∧ os.length = m) := ⟨hm, by omega⟩
  have m12 : m ≤ 12 := by omega
  have n6 : n ≤ 6000 := by omega
  rw [hm]
  clear hM hB2 hm hm0 hv ho v1 v2 v4 o1 o2 o3 hs h h2
  go_enter Try.func46, Try.ntmps46
  go_wp2_with fail
  clear hmk
  go_loopw [0, 8] (fun l i wr => ∃ k : Nat, k ≤ m ∧ i = .int .i64 k ∧ l = .int .i64 (turnG cs n os k).2 ∧ Hid (OwnI wr w.heap.size (.slice (some ⟨w.heap.size, 0, none⟩) m m) (turnG cs n os k).1 ∧ Below w.heap.size w wr)) (fun _ i _ => m - (intOf i).toNat)
  case atStart => exact ⟨0, Nat.zero_le _, rfl, rfl, HM.out⟩
  case round =>
    clear HM
    obtain ⟨k, hk, rfl, rfl, HR⟩ := hrel
    by_cases hlt : k < m
    · obtain ⟨O, B⟩ := HR.out
      have hko : k < os.length := by have := HL.out; omega
      obtain ⟨x0, x1⟩ := HOB.out k hko
      obtain ⟨go, oo, rfl, c0⟩ := ints_open HB.out (by omega)
      have ltg : go < w.heap.size := World.block_lt_of_cell? w _ (c0 k hko)
      have c0 := cell_now (c0 k hko) B
      obtain ⟨q, hq⟩ : ∃ q : Nat, os.getD k 0 = (q : Int) := ⟨(os.getD k 0).toNat, by omega⟩
      have hqc : q < cs.length := by omega
      obtain ⟨gc, oc, rfl, c1⟩ := ints_open HA.out (by omega)
      have c1 := cell_now (c1 q hqc) B
      have lf := HLF.out k
      have b1 := HCB.out q hqc
      have lt := turn_len cs n os k
      have hd := O.cell (j := q) (by omega)
      have hf := O.frozen q
      have e1 : (turnG cs n os (k + 1)).1 = (turnG cs n os k).1.set q (min (turnG cs n os k).2 (cs.getD q 0)) := by
        show List.set _ _ _ = _
        rw [hq, show ((q : Int)).toNat = q by omega]
      have e2 : (turnG cs n os (k + 1)).2 = (turnG cs n os k).2 - min (turnG cs n os k).2 (cs.getD q 0) := by
        show _ - min _ _ = _
        rw [hq, show ((q : Int)).toNat = q by omega]
      have O2 := O.set_ q (min (turnG cs n os k).2 (cs.getD q 0))
      rw [← e1] at O2
      have hd2 := O2.cell (j := q) (by rw [turn_len]; exact hqc)
      rw [e1, getD_setZ q _ (by omega), if_pos rfl] at hd2
      have HS := Lib.hid (And.intro O2 (B.setCell (p := ⟨w.heap.size, q, none⟩) (Nat.le_refl _) (.int .i64 (min (turnG cs n os k).2 (cs.getD q 0)))))
      have HE2 := Lib.hid e2
      rw [hq] at c0
      have ne1 : w.heap.size ≠ go := by omega
      generalize (turnG cs n os k).1.getD q 0 = y at hd
      generalize (turnG cs n os k).2 = l at *
      generalize cs.getD q 0 = z at *
      have k0 : (0 : Int) ≤ (k : Int) := by omega
      have k1 : (k : Int) < (m : Int) := by omega
      have q0 : (0 : Int) ≤ (q : Int) := by omega
      have q1 : (q : Int) < (m : Int) := by have := HL.out; omega
      clear O O2 B HR e1 e2 hq hko hqc x0 x1 lt
      by_cases clz : l ≤ z
      · have mv : min l z = l := by omega
        rw [mv] at HS HE2 hd2
        have wz : IntKind.i64.wrap (l - l) = l - l := by rw [IntKind.wrap_i64]; omega
        clear mv
        go_wp2_with fail
        go_region
        all_goals (
          go_wp2_with fail
          go_roundw
          case rel => exact ⟨k + 1, by omega, by go_num, by rw [HE2.out]; try rw [Int.sub_self], HS.out.1, HS.out.2.drew⟩
          case measure => simp [intOf]; omega)
      · have mv : min l z = z := by omega
        rw [mv] at HS HE2 hd2
        have wz : IntKind.i64.wrap (l - z) = l - z := by rw [IntKind.wrap_i64]; omega
        clear mv
        go_wp2_with fail
        go_region
        all_goals (
          go_wp2_with fail
          go_roundw
          case rel => exact ⟨k + 1, by omega, by go_num, by rw [HE2.out], HS.out.1, HS.out.2.drew⟩
          case measure => simp [intOf]; omega)
    · obtain rfl : k = m := by omega
      have HF : Hid (OwnI wr w.heap.size (.slice (some ⟨w.heap.size, 0, none⟩) k k) (turnV n cs os) ∧ Below w.heap.size w wr) := by
        have e : turnV n cs os = (turnG cs n os k).1 := by unfold turnV; rw [HL.out.2]
        show _ ∧ _
        rw [e]; exact HR.out
      clear HR
      go_wp2_with fail
      go_ret
      exact ⟨_, rfl, HF.out⟩
set_option maxRecDepth 100000 in
set_option maxHeartbeats 4000000 in
/-- spec.InTurn -/
theorem sInTurn (n : Int) (a b : Option Addr) (ca cb m : Nat) (cs os : List Int) (w : World) (h : IsInts w a cs) (h2 : IsInts w b os) (hn : cs.length ≤ 1048576) (hm2 : os.length = m) (hn2 : m ≤ 1048576) (hc : m ≤ cb) :
    Calls Try.prog 14 #[.int .i64 n, .slice a cs.length ca, .slice b m cb] w (OutI w (inV n cs os)) := by
  have CV := svc n a ca cs w h hn
  cases hv : vcB n cs with
  | false =>
    rw [inV_no (it_no1 hv)]
    rw [hv] at CV
    clear hv h h2
    go_enter Try.func14, Try.ntmps14
    go_wp2_with fail
    refine CV.mono ?_
    rintro e w' ⟨rfl, rfl⟩
    go_wp2_with fail
    go_ret
    exact outI_nil (Below.refl _ _)
  | true =>
  rw [hv] at CV
  have CO := svord b cb m cs.length os w h2 hm2 hc hn2 hn
  cases ho : ordB cs.length os with
  | false =>
    rw [inV_no (it_no2 ho)]
    rw [ho] at CO
    clear hv ho h h2 hm2
    go_enter Try.func14, Try.ntmps14
    go_wp2_with fail
    refine CV.mono ?_
    rintro e w' ⟨rfl, rfl⟩
    go_wp2_with fail
    refine CO.mono ?_
    rintro e w2 ⟨rfl, B⟩
    go_wp2_with fail
    go_ret
    exact outI_nil B
  | true =>
  rw [ho] at CO
  rw [inV_yes (it_yes hv ho)]
  have CI := fun (W : World) (hW : Below w.heap.size w W) => sinTurn n a b ca cb m cs os W (ints_below h hW) (ints_below h2 hW) hv ho hm2
  generalize turnV n cs os = V at *
  clear hv ho h h2 hm2
  go_enter Try.func14, Try.ntmps14
  go_wp2_with fail
  refine CV.mono ?_
  rintro e w' ⟨rfl, rfl⟩
  go_wp2_with fail
  refine CO.mono ?_
  rintro e w2 ⟨rfl, B⟩
  go_wp2_with fail
  refine (CI _ B).mono ?_
  rintro e w3 ⟨v, rfl, O, C⟩
  go_wp2_with fail
  go_ret
  exact ⟨_, rfl, own_lower O B.size, bel_tr B C⟩
end Go.Proofs.Ytojkgabkiagjdac
