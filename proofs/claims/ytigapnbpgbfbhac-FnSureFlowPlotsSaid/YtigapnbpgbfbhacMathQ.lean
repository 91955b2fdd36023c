/- What the document promises of divisions, of lists, without the program. Conditions: those stated. -/
import Derived.Test.YtigapnbpgbfbhacGrA
namespace Go.Proofs.Ytigapnbpgbfbhac

/-- P10: how many of the first k weights are more than 0 -/
def posTo (ws : List Int) : Nat → Int
  | 0 => 0
  | k + 1 => posTo ws k + if 0 < ws.getD k 0 then 1 else 0
theorem posTo_succ (ws : List Int) (k : Nat) : posTo ws (k + 1) = posTo ws k + if 0 < ws.getD k 0 then 1 else 0 := rfl
theorem posTo_bd (ws : List Int) : ∀ k, 0 ≤ posTo ws k ∧ posTo ws k ≤ (k : Int) := by
  intro k
  induction k with
  | zero => exact ⟨Int.le_refl _, Int.le_refl _⟩
  | succ k ih => rw [posTo_succ]; split <;> omega
theorem posTo_mem (ws : List Int) {i : Nat} (h : 0 < ws.getD i 0) : ∀ k, i < k → 1 ≤ posTo ws k := by
  intro k
  induction k with
  | zero => intro hk; omega
  | succ k ih =>
    intro hk
    have := posTo_bd ws k
    rw [posTo_succ]
    by_cases e : i = k
    · subst e; rw [if_pos h]; omega
    · have := ih (by omega); split <;> omega
theorem take_all {l : List Int} {n : Nat} (h : l.length = n) : l.take n = l := List.take_of_length_le (by omega)
theorem rest_pos {n : Int} {ws : List Int} (hcs : csB n ws = true) : ∀ k, k ≤ ws.length → ((rsts n ws).take k).sum ≤ (ws.sum - 1) * posTo ws k := by
  have hl := rsts_len n ws
  intro k
  induction k with
  | zero => intro _; simp [posTo]
  | succ k ih =>
    intro hk
    have h1 := ih (by omega)
    have hb := rsts_bd hcs (i := k) (by omega)
    have hw := all_get (cs_yes hcs).2 (i := k) (by omega)
    rw [take_sum _ k (by omega), posTo_succ, Int.mul_add]
    by_cases h : 0 < ws.getD k 0
    · rw [if_pos h]; omega
    · have e : ws.getD k 0 = 0 := by omega
      have : (rsts n ws).getD k 0 = 0 := by rw [rsts_get n ws (by omega), e]; simp
      rw [if_neg h]; omega
theorem left_lt {n : Int} {ws : List Int} (hcs : csB n ws = true) : n - (qs n ws).sum < posTo ws ws.length := by
  obtain ⟨s0, s1⟩ := ws_bd (cs_yes hcs).2
  obtain ⟨i, hi, hp⟩ := pos_some (cs_yes hcs).2
  have h1 := posTo_mem ws hp ws.length hi
  have h2 := rest_pos hcs ws.length (Nat.le_refl _)
  rw [take_all (rsts_len n ws)] at h2
  have h3 := qr_sum n ws
  generalize posTo ws ws.length = p at *
  by_cases h : n - (qs n ws).sum < p
  · exact h
  · have h4 : ws.sum * p ≤ ws.sum * (n - (qs n ws).sum) := Int.mul_le_mul_of_nonneg_left (by omega) (by omega)
    rw [Int.mul_sub, Int.mul_comm ws.sum n] at h4
    rw [Int.sub_mul] at h2
    omega

/-- P11 -/
theorem sr_each {n : Int} {ws : List Int} (hcs : csB n ws = true) {i : Nat} (hi : i < ws.length) :
    (qs n ws).getD i 0 ≤ (sr n ws).getD i 0 ∧ (sr n ws).getD i 0 ≤ (qs n ws).getD i 0 + 1 ∧ (ws.getD i 0 = 0 → (sr n ws).getD i 0 = 0) := by
  have H := rest_is hcs (leftOf n ws) (Nat.le_refl _)
  have he := H.each i hi
  have hz : ws.getD i 0 = 0 → (qs n ws).getD i 0 = 0 ∧ (rsts n ws).getD i 0 = 0 := fun e => by
    rw [qs_get n ws hi, rsts_get n ws hi, e]; simp
  unfold sr
  rcases he with ⟨a, b⟩ | ⟨a, b, c⟩
  · exact ⟨by omega, by omega, fun e => by have := hz e; omega⟩
  · exact ⟨by omega, by omega, fun e => by have := hz e; omega⟩
theorem sr_sum {n : Int} {ws : List Int} (hcs : csB n ws = true) : (sr n ws).sum = n := by
  have H := (rest_is hcs (leftOf n ws) (Nat.le_refl _)).sum
  have := left_is hcs
  unfold sr; omega
theorem q_le_n {n : Int} {ws : List Int} (hcs : csB n ws = true) {i : Nat} (hi : i < ws.length) : 0 ≤ (qs n ws).getD i 0 ∧ (qs n ws).getD i 0 ≤ n := by
  obtain ⟨s0, s1⟩ := ws_bd (cs_yes hcs).2
  have hq := q_le hcs hi
  have hw := all_get (cs_yes hcs).2 hi
  have hle : ws.getD i 0 ≤ ws.sum := by
    have := posS_all (l := ws) (fun i hi => (all_get (cs_yes hcs).2 hi).1)
    have h2 := posS_set (l := ws) hi hw.1
    have h3 : 0 ≤ posS (ws.set i (-1)) := by
      unfold posS
      refine list_nonneg (fun j hj => ?_)
      have : ∀ l : List Int, ∀ j, 0 ≤ (l.map fun z => if z < 0 then 0 else z).getD j 0 := fun l j => by
        rw [List.getD_eq_getElem?_getD, List.getElem?_map]
        cases l[j]? with
        | none => simp
        | some z => simp; split <;> omega
      exact this _ j
    omega
  rw [qs_get n ws hi] at hq ⊢
  refine ⟨hq.1, ?_⟩
  have h1 : n * ws.getD i 0 ≤ n * ws.sum := Int.mul_le_mul_of_nonneg_left hle (cs_yes hcs).1.1
  have h2 := Int.ediv_le_ediv (c := ws.sum) (by omega) h1
  rwa [Int.mul_ediv_cancel _ (by omega)] at h2
theorem sr_bd {n : Int} {ws : List Int} (hcs : csB n ws = true) {i : Nat} (hi : i < ws.length) : 0 ≤ (sr n ws).getD i 0 ∧ (sr n ws).getD i 0 ≤ 501 := by
  have a := sr_each hcs hi
  have b := q_le_n hcs hi
  have c := (cs_yes hcs).1
  omega

/-- P13, P15 -/
def Env (step : Int) (ws gs : List Int) : Prop := ∀ i k, i < ws.length → k < ws.length → 0 < gs.getD k 0 → ws.getD i 0 * (step * (gs.getD k 0 - 1) + 1) ≤ ws.getD k 0 * (step * gs.getD i 0 + 1)
theorem env_is {step : Int} {ws : List Int} (hv : vwB ws = true) (hs : 1 ≤ step ∧ step ≤ 2) : ∀ j, j ≤ 1000 → Env step ws (avgTo step ws j) := by
  intro j
  induction j with
  | zero =>
    intro _ i k hi hk h
    have := (avg_is hv hs 0 (by omega)).bd k hk
    omega
  | succ j ih =>
    intro hj i k hi hk
    have E := ih (by omega)
    have A := avg_is hv hs j (by omega)
    have hb := (avg_pos hv hs (by omega) A).1
    have hmax := fun i (hi : i < ws.length) => avg_max hv hs (by omega) A hi
    have e := avgTo_succ step ws j
    have hl := avgTo_len step ws j
    generalize pickB (avgB step ws (avgTo step ws j)) ws.length = b at *
    have g1 := fun i => getD_set (avgTo step ws j) b ((avgTo step ws j).getD b 0 + 1) (by omega) i
    rw [← e] at g1
    have hw := (all_get hv hk).1
    have mono : ws.getD k 0 * (step * (avgTo step ws j).getD i 0 + 1) ≤ ws.getD k 0 * (step * (avgTo step ws (j + 1)).getD i 0 + 1) := by
      refine Int.mul_le_mul_of_nonneg_left ?_ hw
      have : step * (avgTo step ws j).getD i 0 ≤ step * (avgTo step ws (j + 1)).getD i 0 := by
        refine Int.mul_le_mul_of_nonneg_left ?_ (by omega)
        rw [g1 i]; split
        · next h => subst h; omega
        · omega
      omega
    intro h
    refine Int.le_trans ?_ mono
    rw [g1 k] at h ⊢
    by_cases ek : k = b
    · subst ek
      rw [if_pos rfl]
      have := hmax i hi
      rw [show (avgTo step ws j).getD k 0 + 1 - 1 = (avgTo step ws j).getD k 0 by omega]
      exact this
    · rw [if_neg ek] at h ⊢
      exact E i k hi hk h
theorem sa_facts {step n : Int} {ws : List Int} (hcs : csB n ws = true) (hs : 1 ≤ step ∧ step ≤ 2) :
    (sa step n ws).sum = n ∧ Env step ws (sa step n ws) ∧ ∀ i, i < ws.length → 0 ≤ (sa step n ws).getD i 0 ∧ (sa step n ws).getD i 0 ≤ n := by
  obtain ⟨⟨a, b⟩, hv⟩ := cs_yes hcs
  have A := avg_is hv hs n.toNat (by omega)
  unfold sa
  refine ⟨by rw [A.sum]; omega, env_is hv hs _ (by omega), fun i hi => by have := A.bd i hi; omega⟩
theorem high_env {n : Int} {ws : List Int} (hcs : csB n ws = true) {i k : Nat} (hi : i < ws.length) (hk : k < ws.length) : ws.getD i 0 * (sa 1 n ws).getD k 0 ≤ ws.getD k 0 * ((sa 1 n ws).getD i 0 + 1) := by
  obtain ⟨_, E, B⟩ := sa_facts hcs (step := 1) (by omega)
  have := B k hk
  have b2 := B i hi
  by_cases h : 0 < (sa 1 n ws).getD k 0
  · have := E i k hi hk h
    rw [Int.one_mul, Int.one_mul, show (sa 1 n ws).getD k 0 - 1 + 1 = (sa 1 n ws).getD k 0 by omega] at this
    exact this
  · have e : (sa 1 n ws).getD k 0 = 0 := by omega
    rw [e, Int.mul_zero]
    exact Int.mul_nonneg (all_get (cs_yes hcs).2 hk).1 (by omega)
theorem sum_mul_le (c d : Int) (gs ws : List Int) (m : Nat) (hg : gs.length = m) (hw : ws.length = m) (h : ∀ k, k < m → c * gs.getD k 0 ≤ ws.getD k 0 * d) : ∀ k, k ≤ m → c * (gs.take k).sum ≤ (ws.take k).sum * d := by
  intro k
  induction k with
  | zero => intro _; simp
  | succ k ih =>
    intro hk
    rw [take_sum gs k (by omega), take_sum ws k (by omega), Int.mul_add, Int.add_mul]
    have := ih (by omega)
    have := h k (by omega)
    omega
theorem sum_mul_lt (c d : Int) (gs ws : List Int) (m i : Nat) (hg : gs.length = m) (hw : ws.length = m) (h : ∀ k, k < m → c * gs.getD k 0 ≤ ws.getD k 0 * d) (hi : c * gs.getD i 0 < ws.getD i 0 * d) : ∀ k, k ≤ m → i < k → c * (gs.take k).sum < (ws.take k).sum * d := by
  intro k
  induction k with
  | zero => intro _ h; omega
  | succ k ih =>
    intro hk hik
    rw [take_sum gs k (by omega), take_sum ws k (by omega), Int.mul_add, Int.add_mul]
    have h1 := h k (by omega)
    by_cases e : i = k
    · subst e
      have := sum_mul_le c d gs ws m hg hw h i (by omega)
      omega
    · have := ih (by omega) (by omega)
      omega
theorem high_quota {n : Int} {ws : List Int} (hcs : csB n ws = true) {i : Nat} (hi : i < ws.length) : (qs n ws).getD i 0 ≤ (sa 1 n ws).getD i 0 := by
  obtain ⟨S, E, B⟩ := sa_facts hcs (step := 1) (by omega)
  obtain ⟨s0, s1⟩ := ws_bd (cs_yes hcs).2
  have hw := all_get (cs_yes hcs).2 hi
  have hb := B i hi
  rw [qs_get n ws hi]
  by_cases h0 : 0 < ws.getD i 0
  · have h1 := sum_mul_lt (ws.getD i 0) ((sa 1 n ws).getD i 0 + 1) (sa 1 n ws) ws ws.length i (sa_len 1 n ws) rfl (fun k hk => high_env hcs hi hk) (Int.mul_lt_mul_of_pos_left (by omega) h0) ws.length (Nat.le_refl _) hi
    rw [take_all (sa_len 1 n ws), take_all rfl, S] at h1
    have h2 : n * ws.getD i 0 / ws.sum < (sa 1 n ws).getD i 0 + 1 := Int.ediv_lt_of_lt_mul (by omega) (by rw [Int.mul_comm n, Int.mul_comm _ ws.sum]; exact h1)
    omega
  · have e : ws.getD i 0 = 0 := by omega
    rw [e, Int.mul_zero, Int.zero_ediv]; exact hb.1
theorem mid_env {n : Int} {ws : List Int} (hcs : csB n ws = true) {i k : Nat} (hi : i < ws.length) (hk : k < ws.length) (h : 0 < (sa 2 n ws).getD k 0) : ws.getD i 0 * (2 * (sa 2 n ws).getD k 0 - 1) ≤ ws.getD k 0 * (2 * (sa 2 n ws).getD i 0 + 1) := by
  have := (sa_facts hcs (step := 2) (by omega)).2.1 i k hi hk h
  rw [show 2 * ((sa 2 n ws).getD k 0 - 1) + 1 = 2 * (sa 2 n ws).getD k 0 - 1 by omega] at this
  exact this

/-- P14, P16: a list of zeros with a one -/
def one1 (m b : Nat) : List Int := (List.replicate m 0).set b 1
theorem one1_len (m b : Nat) : (one1 m b).length = m := by unfold one1; simp
theorem one1_get {m b : Nat} (hb : b < m) (i : Nat) : (one1 m b).getD i 0 = if i = b then 1 else 0 := by
  unfold one1
  rw [getD_set _ _ _ (by simpa using hb)]
  split
  · rfl
  · rw [List.getD_eq_getElem?_getD, List.getElem?_replicate]; split <;> rfl
theorem one1_sum {m b : Nat} (hb : b < m) : (one1 m b).sum = 1 := by
  unfold one1
  rw [sum_set _ _ _ (by simpa using hb), List.getD_eq_getElem?_getD, List.getElem?_replicate]
  simp [hb]
theorem sa_more {step n : Int} {ws : List Int} (hcs : csB n ws = true) (hs : 1 ≤ step ∧ step ≤ 2) : ∃ b, b < ws.length ∧ sa step (n + 1) ws = (sa step n ws).set b ((sa step n ws).getD b 0 + 1) := by
  obtain ⟨⟨a, b⟩, hv⟩ := cs_yes hcs
  refine ⟨pickB (avgB step ws (avgTo step ws n.toNat)) ws.length, (avg_pos hv hs (by omega) (avg_is hv hs n.toNat (by omega))).1, ?_⟩
  unfold sa
  rw [show (n + 1).toNat = n.toNat + 1 by omega, avgTo_succ]
theorem csB_more {n : Int} {ws : List Int} (hcs : csB n ws = true) (h : n ≠ 500) : csB (n + 1) ws = true := by
  obtain ⟨⟨a, b⟩, hv⟩ := cs_yes hcs
  rw [cs_is (by omega)]; exact hv
/-- the greatest of the first k numbers, at least 0 -/
def hiTo (zs : List Int) : Nat → Int
  | 0 => 0
  | k + 1 => max (hiTo zs k) (zs.getD k 0)
theorem hiTo_succ (zs : List Int) (k : Nat) : hiTo zs (k + 1) = max (hiTo zs k) (zs.getD k 0) := rfl
/-- how many of the first k numbers are n -/
def cntTo (zs : List Int) (n : Int) : Nat → Int
  | 0 => 0
  | k + 1 => cntTo zs n k + if zs.getD k 0 = n then 1 else 0
theorem cntTo_succ (zs : List Int) (n : Int) (k : Nat) : cntTo zs n (k + 1) = cntTo zs n k + if zs.getD k 0 = n then 1 else 0 := rfl
theorem cntTo_bd (zs : List Int) (n : Int) : ∀ k, 0 ≤ cntTo zs n k ∧ cntTo zs n k ≤ (k : Int) := by
  intro k
  induction k with
  | zero => exact ⟨Int.le_refl _, Int.le_refl _⟩
  | succ k ih => rw [cntTo_succ]; split <;> omega
theorem one1_hi {m b : Nat} (hb : b < m) : hiTo (one1 m b) m = 1 := by
  have : ∀ k, hiTo (one1 m b) k = if b < k then 1 else 0 := by
    intro k
    induction k with
    | zero => simp [hiTo]
    | succ k ih =>
      rw [hiTo_succ, ih, one1_get hb]
      by_cases h1 : b < k
      · rw [if_pos h1, if_neg (show ¬ k = b by omega), if_pos (by omega)]; decide
      · by_cases h2 : k = b
        · rw [if_neg h1, if_pos h2, if_pos (by omega)]; decide
        · rw [if_neg h1, if_neg h2, if_neg (by omega)]; decide
  rw [this, if_pos hb]
theorem one1_cnt {m b : Nat} (hb : b < m) : cntTo (one1 m b) 0 m = (m : Int) - 1 := by
  have : ∀ k, cntTo (one1 m b) 0 k = if b < k then (k : Int) - 1 else k := by
    intro k
    induction k with
    | zero => simp [cntTo]
    | succ k ih =>
      rw [cntTo_succ, ih, one1_get hb]
      by_cases h1 : b < k
      · rw [if_pos h1, if_neg (show ¬ k = b by omega), if_pos rfl, if_pos (by omega)]; omega
      · by_cases h2 : k = b
        · rw [if_neg h1, if_pos h2, if_neg (by omega), if_pos (by omega)]; omega
        · rw [if_neg h1, if_neg h2, if_pos rfl, if_neg (by omega)]; omega
  rw [this, if_pos hb]
/-- twice the weights -/
def dbl (ws : List Int) : List Int := ws.map fun z => 2 * z
theorem dbl_len (ws : List Int) : (dbl ws).length = ws.length := by unfold dbl; simp
theorem dbl_get (ws : List Int) (i : Nat) : (dbl ws).getD i 0 = 2 * ws.getD i 0 := by
  unfold dbl
  rw [List.getD_eq_getElem?_getD, List.getD_eq_getElem?_getD, List.getElem?_map]
  cases ws[i]? <;> simp
theorem dbl_sum (ws : List Int) : (dbl ws).sum = 2 * ws.sum := by
  unfold dbl
  induction ws with
  | nil => rfl
  | cons x l ih => simp only [List.map_cons, List.sum_cons, ih]; omega
theorem hi_bd (zs : List Int) : ∀ k i, i < k → zs.getD i 0 ≤ hiTo zs k := by
  intro k
  induction k with
  | zero => intro i h; omega
  | succ k ih =>
    intro i h
    rw [hiTo_succ]
    by_cases e : i = k
    · subst e; exact Int.le_max_right _ _
    · exact Int.le_trans (ih i (by omega)) (Int.le_max_left _ _)
theorem dbl_cs {n : Int} {ws : List Int} (hcs : csB n ws = true) (h : hiTo (dbl ws) ws.length ≤ 1000) : csB n (dbl ws) = true := by
  obtain ⟨⟨a, b⟩, hv⟩ := cs_yes hcs
  rw [cs_is (by omega)]
  have hl := dbl_len ws
  have hd : allB (dbl ws) 1000 = true := allB_yes (fun i hi => by
    rw [hl] at hi
    have h1 := hi_bd (dbl ws) ws.length i hi
    have h2 := dbl_get ws i
    have h3 := all_get hv hi
    omega)
  unfold vwB
  rw [hd, decide_eq_true (by rw [hl]; exact (vw_is hv).2.1), decide_eq_true (by rw [dbl_sum]; have := (ws_bd hv).1; omega)]
  rfl
theorem dbl_avg (step : Int) (ws : List Int) : ∀ j, avgTo step (dbl ws) j = avgTo step ws j := by
  have hR : ∀ gs, avgB step (dbl ws) gs = avgB step ws gs := fun gs => by
    funext i b
    unfold avgB
    rw [dbl_get, dbl_get, Int.mul_assoc, Int.mul_assoc]
    exact decide_eq_decide.2 (by omega)
  intro j
  induction j with
  | zero => show List.replicate _ _ = List.replicate _ _; rw [dbl_len]
  | succ j ih => rw [avgTo_succ, avgTo_succ, ih, hR, dbl_len]
theorem dbl_sa (step n : Int) (ws : List Int) : sa step n (dbl ws) = sa step n ws := dbl_avg step ws _

/-- P12: nothing is nearer -/
def chosen (n : Int) (ws : List Int) (i : Nat) : Prop := (sr n ws).getD i 0 = (qs n ws).getD i 0 + 1
theorem near_rho {n : Int} {ws : List Int} (hcs : csB n ws = true) : ∃ r : Int, 0 ≤ r ∧ r ≤ ws.sum ∧ ∀ i, i < ws.length →
    ((sr n ws).getD i 0 = (qs n ws).getD i 0 + 1 ∧ r ≤ (rsts n ws).getD i 0) ∨ ((sr n ws).getD i 0 = (qs n ws).getD i 0 ∧ (rsts n ws).getD i 0 ≤ r) := by
  have H := rest_is hcs (leftOf n ws) (Nat.le_refl _)
  have ord : ∀ i k, i < ws.length → k < ws.length → (sr n ws).getD i 0 = (qs n ws).getD i 0 + 1 → (sr n ws).getD k 0 = (qs n ws).getD k 0 → (rsts n ws).getD k 0 ≤ (rsts n ws).getD i 0 := fun i k hi hk h1 h2 => by
    have a := H.each i hi
    have b := H.each k hk
    have c := rsts_bd hcs hk
    unfold sr at h1 h2
    exact H.order i k hi hk (by omega) (by omega)
  obtain ⟨s0, s1⟩ := ws_bd (cs_yes hcs).2
  have key : ∀ m, m ≤ ws.length → ∃ r : Int, 0 ≤ r ∧ r ≤ ws.sum ∧ (∀ i, i < m → (sr n ws).getD i 0 = (qs n ws).getD i 0 + 1 → r ≤ (rsts n ws).getD i 0) ∧ (∀ i, i < ws.length → (sr n ws).getD i 0 = (qs n ws).getD i 0 → (rsts n ws).getD i 0 ≤ r) := by
    intro m
    induction m with
    | zero => intro _; exact ⟨ws.sum, by omega, Int.le_refl _, fun i hi => by omega, fun i hi _ => Int.le_of_lt (rsts_bd hcs hi).2.1⟩
    | succ m ih =>
      intro hm
      obtain ⟨r, r0, r1, h1, h2⟩ := ih (by omega)
      have hb := rsts_bd hcs (i := m) (by omega)
      by_cases hc : (sr n ws).getD m 0 = (qs n ws).getD m 0 + 1
      · by_cases hr : r ≤ (rsts n ws).getD m 0
        · refine ⟨r, r0, r1, fun i hi h => ?_, h2⟩
          by_cases e : i = m
          · subst e; exact hr
          · exact h1 i (by omega) h
        · refine ⟨(rsts n ws).getD m 0, hb.1, Int.le_of_lt hb.2.1, fun i hi h => ?_, fun i hi h => ord m i (by omega) hi hc h⟩
          by_cases e : i = m
          · subst e; exact Int.le_refl _
          · have := h1 i (by omega) h; omega
      · refine ⟨r, r0, r1, fun i hi h => ?_, h2⟩
        by_cases e : i = m
        · subst e; exact absurd h hc
        · exact h1 i (by omega) h
  obtain ⟨r, r0, r1, h1, h2⟩ := key ws.length (Nat.le_refl _)
  refine ⟨r, r0, r1, fun i hi => ?_⟩
  have a := H.each i hi
  have e : (sr n ws).getD i 0 = (qs n ws).getD i 0 ∨ (sr n ws).getD i 0 = (qs n ws).getD i 0 + 1 := by unfold sr; omega
  rcases e with e | e
  · exact .inr ⟨e, h2 i hi e⟩
  · exact .inl ⟨e, h1 i hi e⟩
theorem absd_le_iff (a b c : Int) : c ≤ absd a b ↔ c ≤ b - a ∨ c ≤ a - b := by
  unfold absd; split <;> omega
theorem near_one {S r p q o x : Int} (hr0 : 0 ≤ r) (hr1 : r < S) (hp0 : 0 ≤ p) (hp1 : p ≤ S) (ho : (o = q + 1 ∧ p ≤ r) ∨ (o = q ∧ r ≤ p)) :
    absd (o * S) (S * q + r) + (S - 2 * p) * (x - o) ≤ absd (x * S) (S * q + r) := by
  have e1 : ∀ y : Int, (q + y) * S - (S * q + r) = y * S - r := fun y => by rw [Int.add_mul, Int.mul_comm q S]; omega
  obtain ⟨y, rfl⟩ : ∃ y, x = q + y := ⟨x - q, by omega⟩
  have hx := e1 y
  rw [absd_le_iff]
  rcases ho with ⟨rfl, hp⟩ | ⟨rfl, hp⟩
  · have h1 := e1 1
    have ea : absd ((q + 1) * S) (S * q + r) = S - r := by unfold absd; split <;> omega
    rw [ea]
    by_cases hy : 1 ≤ y
    · right
      have h2 : 0 ≤ p * (y - 1) := Int.mul_nonneg hp0 (by omega)
      have h3 : (S - 2 * p) * (q + y - (q + 1)) = y * S - S - 2 * (p * (y - 1)) := by
        rw [show q + y - (q + 1) = y - 1 by omega, Int.sub_mul, Int.mul_sub S, Int.mul_one, Int.mul_comm S y, Int.mul_assoc]
      omega
    · left
      have h2 : 0 ≤ (S - p) * (-y) := Int.mul_nonneg (by omega) (by omega)
      have h3 : (S - 2 * p) * (q + y - (q + 1)) = y * S - S - 2 * (p * y) + 2 * p := by
        rw [show q + y - (q + 1) = y - 1 by omega, Int.sub_mul, Int.mul_sub S, Int.mul_one, Int.mul_comm S y, Int.mul_assoc, Int.mul_sub p, Int.mul_one]; omega
      rw [Int.mul_neg, Int.sub_mul, Int.mul_comm S y] at h2
      omega
  · have h1 := e1 0
    have ea : absd (o * S) (S * o + r) = r := by
      rw [Int.add_zero, Int.zero_mul] at h1
      unfold absd; split <;> omega
    rw [ea]
    by_cases hy : 1 ≤ y
    · right
      have h2 : 0 ≤ p * (y - 1) := Int.mul_nonneg hp0 (by omega)
      have h3 : (S - 2 * p) * (o + y - o) = y * S - 2 * (p * y) := by
        rw [show o + y - o = y by omega, Int.sub_mul, Int.mul_comm S y, Int.mul_assoc]
      rw [Int.mul_sub, Int.mul_one] at h2
      omega
    · left
      have h2 : 0 ≤ (S - p) * (-y) := Int.mul_nonneg (by omega) (by omega)
      have h3 : (S - 2 * p) * (o + y - o) = y * S - 2 * (p * y) := by
        rw [show o + y - o = y by omega, Int.sub_mul, Int.mul_comm S y, Int.mul_assoc]
      rw [Int.mul_neg, Int.sub_mul, Int.mul_comm S y] at h2
      omega
theorem near {n : Int} {ws xs : List Int} (hcs : csB n ws = true) (hl : xs.length = ws.length) (hx : xs.sum = n) : distTo (sr n ws) ws ws.length ≤ distTo xs ws ws.length := by
  obtain ⟨p, p0, p1, hp⟩ := near_rho hcs
  obtain ⟨s0, s1⟩ := ws_bd (cs_yes hcs).2
  have ho := sr_sum hcs
  have hol := sr_len n ws
  have key : ∀ k, k ≤ ws.length → distTo (sr n ws) ws k + (ws.sum - 2 * p) * ((xs.take k).sum - ((sr n ws).take k).sum) ≤ distTo xs ws k := by
    intro k
    induction k with
    | zero => intro _; simp [distTo]
    | succ k ih =>
      intro hk
      have h1 := ih (by omega)
      have hr := rsts_bd hcs (i := k) (by omega)
      have e : ws.getD k 0 * n = ws.sum * (qs n ws).getD k 0 + (rsts n ws).getD k 0 := by
        rw [qs_get n ws (by omega), rsts_get n ws (by omega), Int.mul_comm _ n]
        exact (Int.mul_ediv_add_emod _ _).symm
      have h2 := near_one (x := xs.getD k 0) (q := (qs n ws).getD k 0) (o := (sr n ws).getD k 0) hr.1 hr.2.1 p0 p1 (hp k (by omega))
      rw [← e] at h2
      show distTo (sr n ws) ws k + dterm (sr n ws) ws k + _ ≤ distTo xs ws k + dterm xs ws k
      have d1 : dterm (sr n ws) ws k = absd ((sr n ws).getD k 0 * ws.sum) (ws.getD k 0 * n) := by unfold dterm; rw [ho]
      have d2 : dterm xs ws k = absd (xs.getD k 0 * ws.sum) (ws.getD k 0 * n) := by unfold dterm; rw [hx]
      rw [d1, d2, take_sum xs k (by omega), take_sum (sr n ws) k (by omega)]
      have h3 : (ws.sum - 2 * p) * ((xs.take k).sum + xs.getD k 0 - (((sr n ws).take k).sum + (sr n ws).getD k 0)) = (ws.sum - 2 * p) * ((xs.take k).sum - ((sr n ws).take k).sum) + (ws.sum - 2 * p) * (xs.getD k 0 - (sr n ws).getD k 0) := by
        rw [← Int.mul_add]; congr 1; omega
      rw [h3]; omega
  have := key ws.length (Nat.le_refl _)
  rw [take_all hl, take_all hol, hx, ho, Int.sub_self, Int.mul_zero] at this
  omega
end Go.Proofs.Ytigapnbpgbfbhac
