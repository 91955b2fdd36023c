/- The divisions as lists, without the program: greatest remainders and averages. Conditions: those stated. -/
import Derived.Test.YtojkgabkiagjdacQuot
namespace Go.Proofs.Ytojkgabkiagjdac

theorem getD_set (l : List Int) (b : Nat) (v : Int) (hb : b < l.length) (i : Nat) : (l.set b v).getD i 0 = if i = b then v else l.getD i 0 := by
  rw [List.getD_eq_getElem?_getD, List.getElem?_set, List.getD_eq_getElem?_getD]
  by_cases h : i = b
  · subst h; simp [hb]
  · rw [if_neg (fun e => h e.symm), if_neg h]
theorem sum_set (l : List Int) : ∀ (b : Nat) (v : Int), b < l.length → (l.set b v).sum = l.sum - l.getD b 0 + v := by
  induction l with
  | nil => intro b v h; simp at h
  | cons x l ih =>
    intro b v h
    cases b with
    | zero => simp; omega
    | succ b =>
      have := ih b v (by simpa using h)
      simp at this ⊢
      omega

/-- the first index that is beaten by none after it -/
def pickB (R : Nat → Nat → Bool) : Nat → Nat
  | 0 => 0
  | k + 1 => if R k (pickB R k) then k else pickB R k
theorem pickB_succ (R : Nat → Nat → Bool) (k : Nat) : pickB R (k + 1) = if R k (pickB R k) then k else pickB R k := rfl
theorem pickB_lt (R : Nat → Nat → Bool) (k : Nat) : pickB R (k + 1) < k + 1 := by
  induction k with
  | zero => rw [pickB_succ]; split <;> simp [pickB]
  | succ k ih => rw [pickB_succ]; split <;> omega
theorem pickB_lt' {R : Nat → Nat → Bool} {k : Nat} (h : 0 < k) : pickB R k < k := by
  obtain ⟨j, rfl⟩ : ∃ j, k = j + 1 := ⟨k - 1, by omega⟩
  exact pickB_lt R j
theorem pickB_max (R : Nat → Nat → Bool) (ge : Nat → Nat → Prop) (refl : ∀ i, ge i i) (hn : ∀ i b, R i b = false → ge b i) (ht : ∀ i b c, R i b = true → ge b c → ge i c) : ∀ k i, i < k → ge (pickB R k) i := by
  intro k
  induction k with
  | zero => intro i h; omega
  | succ k ih =>
    intro i h
    rw [pickB_succ]
    cases hR : R k (pickB R k) with
    | true =>
      simp only [if_true]
      by_cases e : i = k
      · subst e; exact refl _
      · exact ht _ _ _ hR (ih i (by omega))
    | false =>
      simp only [Bool.false_eq_true, if_false]
      by_cases e : i = k
      · subst e; exact hn _ _ hR
      · exact ih i (by omega)
/-- the same, begun with none -/
def pickS (ok : Nat → Bool) (R : Nat → Nat → Bool) : Nat → Int
  | 0 => -1
  | k + 1 => if ok k && (decide (pickS ok R k < 0) || R k (pickS ok R k).toNat) then k else pickS ok R k
theorem pickS_is (ok : Nat → Bool) (R : Nat → Nat → Bool) (n : Nat) (h1 : ∀ i b, i < n → b < n → ok i = true → ok b = false → R i b = true) (h2 : ∀ i b, i < n → b < n → ok i = false → R i b = false) :
    ∀ k, k ≤ n → (pickS ok R k = -1 ∧ pickB R k = 0 ∧ ∀ j, j < k → ok j = false) ∨ (pickS ok R k = (pickB R k : Nat) ∧ ok (pickB R k) = true ∧ pickB R k < k) := by
  intro k
  induction k with
  | zero => intro _; exact .inl ⟨rfl, rfl, fun j h => by omega⟩
  | succ k ih =>
    intro hk
    rw [pickB_succ]
    show ((if ok k && (decide (pickS ok R k < 0) || R k (pickS ok R k).toNat) then (k : Int) else pickS ok R k) = -1 ∧ _ ∧ _) ∨ ((if ok k && (decide (pickS ok R k < 0) || R k (pickS ok R k).toNat) then (k : Int) else pickS ok R k) = _ ∧ _ ∧ _)
    rcases ih (by omega) with ⟨a, b, c⟩ | ⟨a, b, c⟩
    · rw [a, b]
      cases ho : ok k with
      | true =>
        right
        by_cases h0 : k = 0
        · subst h0; simp [ho]
        · rw [h1 k 0 (by omega) (by omega) ho (c 0 (by omega))]; simp [ho]
      | false =>
        left
        rw [h2 k 0 (by omega) (by omega) ho]
        refine ⟨by simp, by simp, fun j hj => ?_⟩
        by_cases e : j = k
        · subst e; exact ho
        · exact c j (by omega)
    · right
      rw [a]
      have e : decide (((pickB R k : Nat) : Int) < 0) = false := by simp
      rw [e, Int.toNat_natCast]
      cases ho : ok k with
      | true =>
        cases hR : R k (pickB R k) with
        | true => simp [ho]
        | false => simp [b]; omega
      | false =>
        rw [h2 k _ (by omega) (by omega) ho]
        simp [b]; omega

/-- the remainders -/
def rsts (n : Int) (ws : List Int) : List Int := ws.map fun z => n * z % ws.sum
theorem rsts_len (n : Int) (ws : List Int) : (rsts n ws).length = ws.length := by unfold rsts; simp
theorem rsts_get (n : Int) (ws : List Int) {k : Nat} (h : k < ws.length) : (rsts n ws).getD k 0 = n * ws.getD k 0 % ws.sum := by
  unfold rsts
  rw [List.getD_eq_getElem?_getD, List.getD_eq_getElem?_getD, List.getElem?_map, List.getElem?_eq_getElem h]; rfl
theorem sum_parts (n S : Int) : ∀ ws : List Int, n * ws.sum = S * (ws.map fun z => n * z / S).sum + (ws.map fun z => n * z % S).sum := by
  intro ws
  induction ws with
  | nil => simp
  | cons x l ih =>
    simp only [List.map_cons, List.sum_cons, Int.mul_add]
    have := Int.mul_ediv_add_emod (n * x) S
    omega
theorem qr_sum (n : Int) (ws : List Int) : n * ws.sum = ws.sum * (qs n ws).sum + (rsts n ws).sum := sum_parts n ws.sum ws

def moreB (l : List Int) (i b : Nat) : Bool := decide (l.getD i 0 > l.getD b 0)
def stepR (s : List Int × List Int) : List Int × List Int :=
  (s.1.set (pickB (moreB s.2) s.2.length) (s.1.getD (pickB (moreB s.2) s.2.length) 0 + 1), s.2.set (pickB (moreB s.2) s.2.length) (-1))
def restTo (n : Int) (ws : List Int) : Nat → List Int × List Int
  | 0 => (qs n ws, rsts n ws)
  | j + 1 => stepR (restTo n ws j)
theorem restTo_len (n : Int) (ws : List Int) : ∀ j, (restTo n ws j).1.length = ws.length ∧ (restTo n ws j).2.length = ws.length := by
  intro j
  induction j with
  | zero => exact ⟨qs_len n ws, rsts_len n ws⟩
  | succ j ih => exact ⟨by show (List.set _ _ _).length = _; simp [ih.1], by show (List.set _ _ _).length = _; simp [ih.2]⟩
theorem moreB_max (l : List Int) {i : Nat} (h : i < l.length) : l.getD i 0 ≤ l.getD (pickB (moreB l) l.length) 0 := by
  refine pickB_max (moreB l) (fun b i => l.getD i 0 ≤ l.getD b 0) (fun i => Int.le_refl _) (fun i b h => ?_) (fun i b c h h' => ?_) l.length i h
  · unfold moreB at h; simp only [decide_eq_false_iff_not] at h; omega
  · unfold moreB at h; simp only [decide_eq_true_eq] at h; omega
/-- the units that are left -/
def leftOf (n : Int) (ws : List Int) : Nat := (n - (qs n ws).sum).toNat
def sr (n : Int) (ws : List Int) : List Int := (restTo n ws (leftOf n ws)).1
theorem sr_len (n : Int) (ws : List Int) : (sr n ws).length = ws.length := (restTo_len n ws _).1

def posS (l : List Int) : Int := (l.map fun z => if z < 0 then 0 else z).sum
theorem posS_pos {l : List Int} (h : 0 < posS l) : ∃ i, i < l.length ∧ 0 < l.getD i 0 := by
  unfold posS at h
  induction l with
  | nil => simp at h
  | cons x l ih =>
    by_cases hx : 0 < x
    · exact ⟨0, by simp, by simpa using hx⟩
    · simp only [List.map_cons, List.sum_cons] at h
      obtain ⟨i, hi, hg⟩ := ih (by split at h <;> omega)
      exact ⟨i + 1, by simpa using hi, by simpa using hg⟩
theorem posS_set {l : List Int} {b : Nat} (h : b < l.length) (h0 : 0 ≤ l.getD b 0) : posS (l.set b (-1)) = posS l - l.getD b 0 := by
  unfold posS
  rw [List.map_set, sum_set _ _ _ (by simpa using h)]
  have e : (l.map fun z => if z < 0 then 0 else z).getD b 0 = l.getD b 0 := by
    rw [List.getD_eq_getElem?_getD, List.getElem?_map, List.getElem?_eq_getElem h]
    rw [List.getD_eq_getElem?_getD, List.getElem?_eq_getElem h] at h0 ⊢
    simp at h0 ⊢; omega
  rw [e]; simp
theorem posS_all {l : List Int} (h : ∀ i, i < l.length → 0 ≤ l.getD i 0) : posS l = l.sum := by
  unfold posS
  induction l with
  | nil => rfl
  | cons x l ih =>
    have h0 := h 0 (by simp)
    have := ih (fun i hi => by simpa using h (i + 1) (by simpa using hi))
    simp only [List.getD_cons_zero] at h0
    simp only [List.map_cons, List.sum_cons, this, if_neg (by omega : ¬ x < 0)]

/-- what holds after j units -/
structure Rest (n : Int) (ws : List Int) (j : Nat) : Prop where
  each : ∀ i, i < ws.length → ((restTo n ws j).1.getD i 0 = (qs n ws).getD i 0 ∧ (restTo n ws j).2.getD i 0 = (rsts n ws).getD i 0) ∨ ((restTo n ws j).1.getD i 0 = (qs n ws).getD i 0 + 1 ∧ (restTo n ws j).2.getD i 0 = -1 ∧ 0 < (rsts n ws).getD i 0)
  order : ∀ i k, i < ws.length → k < ws.length → (restTo n ws j).2.getD i 0 = -1 → (restTo n ws j).2.getD k 0 ≠ -1 → (rsts n ws).getD k 0 ≤ (rsts n ws).getD i 0
  sum : (restTo n ws j).1.sum = (qs n ws).sum + j
  pos : ws.sum * ((leftOf n ws : Int) - j) ≤ posS (restTo n ws j).2
theorem rsts_bd {n : Int} {ws : List Int} (hcs : csB n ws = true) {i : Nat} (hi : i < ws.length) : 0 ≤ (rsts n ws).getD i 0 ∧ (rsts n ws).getD i 0 < ws.sum ∧ ws.sum ≤ 12000000 := by
  obtain ⟨s0, s1⟩ := ws_bd (cs_yes hcs).2
  rw [rsts_get n ws hi]
  exact ⟨Int.emod_nonneg _ (by omega), Int.emod_lt_of_pos _ (by omega), s1⟩
theorem list_nonneg {l : List Int} (h : ∀ i, i < l.length → 0 ≤ l.getD i 0) : 0 ≤ l.sum := by
  induction l with
  | nil => simp
  | cons x l ih =>
    have h0 := h 0 (by simp)
    have := ih (fun i hi => by simpa using h (i + 1) (by simpa using hi))
    simp only [List.getD_cons_zero] at h0
    rw [List.sum_cons]; omega
theorem q_sum {n : Int} {ws : List Int} (hcs : csB n ws = true) : 0 ≤ (qs n ws).sum ∧ (qs n ws).sum ≤ n := by
  obtain ⟨s0, s1⟩ := ws_bd (cs_yes hcs).2
  have hq : 0 ≤ (qs n ws).sum := list_nonneg (fun i hi => by
    rw [qs_len] at hi
    rw [qs_get n ws hi]
    exact Int.ediv_nonneg (q_bd hcs hi).2.2.1 (by omega))
  have hr : 0 ≤ (rsts n ws).sum := list_nonneg (fun i hi => by rw [rsts_len] at hi; exact (rsts_bd hcs hi).1)
  have e := qr_sum n ws
  refine ⟨hq, ?_⟩
  have : ws.sum * (qs n ws).sum ≤ ws.sum * n := by rw [Int.mul_comm ws.sum n]; omega
  exact Int.le_of_mul_le_mul_left this (by omega)
theorem left_is {n : Int} {ws : List Int} (hcs : csB n ws = true) : (leftOf n ws : Int) = n - (qs n ws).sum := by
  have := q_sum hcs
  unfold leftOf; omega
theorem q_le {n : Int} {ws : List Int} (hcs : csB n ws = true) {i : Nat} (hi : i < ws.length) : 0 ≤ (qs n ws).getD i 0 ∧ (qs n ws).getD i 0 ≤ 500000 := by
  obtain ⟨s0, s1⟩ := ws_bd (cs_yes hcs).2
  obtain ⟨a, b, c, d⟩ := q_bd hcs hi
  rw [qs_get n ws hi]
  exact ⟨Int.ediv_nonneg c (by omega), Int.le_trans (Int.ediv_le_self _ c) d⟩
theorem ws_ne {ws : List Int} (h : vwB ws = true) : 0 < ws.length := by
  have := (ws_bd h).1
  cases ws with
  | nil => simp at this
  | cons x l => simp
theorem rest_best {n : Int} {ws : List Int} (hcs : csB n ws = true) {j : Nat} (h : Rest n ws j) (hj : j < leftOf n ws) :
    pickB (moreB (restTo n ws j).2) ws.length < ws.length ∧ 0 < (restTo n ws j).2.getD (pickB (moreB (restTo n ws j).2) ws.length) 0 := by
  obtain ⟨s0, s1⟩ := ws_bd (cs_yes hcs).2
  have hl := (restTo_len n ws j).2
  have hp := h.pos
  have : 0 < posS (restTo n ws j).2 := by
    have : ws.sum * 1 ≤ ws.sum * ((leftOf n ws : Int) - j) := Int.mul_le_mul_of_nonneg_left (by omega) (by omega)
    omega
  obtain ⟨i, hi, hg⟩ := posS_pos this
  have hm := moreB_max _ hi
  rw [hl] at hm
  exact ⟨pickB_lt' (by omega), by omega⟩
theorem restTo_succ1 (n : Int) (ws : List Int) (j : Nat) : (restTo n ws (j + 1)).1 = (restTo n ws j).1.set (pickB (moreB (restTo n ws j).2) ws.length) ((restTo n ws j).1.getD (pickB (moreB (restTo n ws j).2) ws.length) 0 + 1) := by
  show (stepR (restTo n ws j)).1 = _
  unfold stepR
  rw [(restTo_len n ws j).2]
theorem restTo_succ2 (n : Int) (ws : List Int) (j : Nat) : (restTo n ws (j + 1)).2 = (restTo n ws j).2.set (pickB (moreB (restTo n ws j).2) ws.length) (-1) := by
  show (stepR (restTo n ws j)).2 = _
  unfold stepR
  rw [(restTo_len n ws j).2]
theorem rest_is {n : Int} {ws : List Int} (hcs : csB n ws = true) : ∀ j, j ≤ leftOf n ws → Rest n ws j := by
  obtain ⟨s0, s1⟩ := ws_bd (cs_yes hcs).2
  intro j
  induction j with
  | zero =>
    intro _
    refine ⟨fun i hi => .inl ⟨rfl, rfl⟩, fun i k hi hk h => ?_, by simp [restTo], ?_⟩
    · have : (rsts n ws).getD i 0 = -1 := h
      have := rsts_bd hcs hi
      omega
    · show _ ≤ posS (rsts n ws)
      rw [posS_all (fun i hi => by rw [rsts_len] at hi; exact (rsts_bd hcs hi).1), left_is hcs]
      have := qr_sum n ws
      rw [Int.mul_comm n] at this
      simp only [Int.mul_sub, Int.natCast_zero, Int.mul_zero]
      omega
  | succ j ih =>
    intro hj
    have H := ih (by omega)
    obtain ⟨hb, hpos⟩ := rest_best hcs H (by omega)
    obtain ⟨l1, l2⟩ := restTo_len n ws j
    have hmax := fun i (hi : i < ws.length) => moreB_max (restTo n ws j).2 (i := i) (by omega)
    rw [l2] at hmax
    have e1 := restTo_succ1 n ws j
    have e2 := restTo_succ2 n ws j
    generalize pickB (moreB (restTo n ws j).2) ws.length = b at hb hpos hmax e1 e2
    have g1 := fun i => getD_set (restTo n ws j).1 b ((restTo n ws j).1.getD b 0 + 1) (by omega) i
    have g2 := fun i => getD_set (restTo n ws j).2 b (-1) (by omega) i
    rw [← e1] at g1
    rw [← e2] at g2
    have hbe : (restTo n ws j).1.getD b 0 = (qs n ws).getD b 0 ∧ (restTo n ws j).2.getD b 0 = (rsts n ws).getD b 0 := by
      rcases H.each b hb with h | h
      · exact h
      · omega
    refine ⟨fun i hi => ?_, fun i k hi hk h1 h2 => ?_, ?_, ?_⟩
    · rw [g1 i, g2 i]
      by_cases e : i = b
      · subst e; rw [if_pos rfl, if_pos rfl]; right; refine ⟨by omega, rfl, by omega⟩
      · rw [if_neg e, if_neg e]; exact H.each i hi
    · rw [g2 i] at h1
      rw [g2 k] at h2
      have ek : k ≠ b := fun e => h2 (by rw [if_pos e])
      rw [if_neg ek] at h2
      have hk' : (restTo n ws j).2.getD k 0 = (rsts n ws).getD k 0 := by
        rcases H.each k hk with h | h
        · exact h.2
        · exact absurd h.2.1 h2
      by_cases e : i = b
      · subst e; have := hmax k hk; omega
      · rw [if_neg e] at h1; exact H.order i k hi hk h1 h2
    · rw [e1, sum_set _ _ _ (by omega), H.sum]; simp; omega
    · rw [e2, posS_set (by omega) (by omega)]
      have hp := H.pos
      have hr := (rsts_bd hcs hb).2.1
      have e : ws.sum * ((leftOf n ws : Int) - (j + 1 : Nat)) = ws.sum * ((leftOf n ws : Int) - j) - ws.sum := by
        rw [show ((leftOf n ws : Int) - (j + 1 : Nat)) = ((leftOf n ws : Int) - j) - 1 by omega, Int.mul_sub]; omega
      rw [e]; omega

/-- averages -/
def avgB (step : Int) (ws gs : List Int) (i b : Nat) : Bool := decide (ws.getD i 0 * (step * gs.getD b 0 + 1) > ws.getD b 0 * (step * gs.getD i 0 + 1))
theorem avgB_true {step : Int} {ws gs : List Int} {i b : Nat} (h : avgB step ws gs i b = true) : ws.getD b 0 * (step * gs.getD i 0 + 1) < ws.getD i 0 * (step * gs.getD b 0 + 1) := by
  unfold avgB at h; simpa using h
theorem avgB_false {step : Int} {ws gs : List Int} {i b : Nat} (h : avgB step ws gs i b = false) : ws.getD i 0 * (step * gs.getD b 0 + 1) ≤ ws.getD b 0 * (step * gs.getD i 0 + 1) := by
  unfold avgB at h; simpa using h
def avgTo (step : Int) (ws : List Int) : Nat → List Int
  | 0 => List.replicate ws.length 0
  | j + 1 => (avgTo step ws j).set (pickB (avgB step ws (avgTo step ws j)) ws.length) ((avgTo step ws j).getD (pickB (avgB step ws (avgTo step ws j)) ws.length) 0 + 1)
theorem avgTo_succ (step : Int) (ws : List Int) (j : Nat) : avgTo step ws (j + 1) = (avgTo step ws j).set (pickB (avgB step ws (avgTo step ws j)) ws.length) ((avgTo step ws j).getD (pickB (avgB step ws (avgTo step ws j)) ws.length) 0 + 1) := rfl
theorem avgTo_len (step : Int) (ws : List Int) : ∀ j, (avgTo step ws j).length = ws.length := by
  intro j
  induction j with
  | zero => simp [avgTo]
  | succ j ih => rw [avgTo_succ]; simp [ih]
def sa (step n : Int) (ws : List Int) : List Int := avgTo step ws n.toNat
theorem sa_len (step n : Int) (ws : List Int) : (sa step n ws).length = ws.length := avgTo_len step ws _
/-- what holds after j units -/
structure Avg (step : Int) (ws : List Int) (j : Nat) : Prop where
  bd : ∀ i, i < ws.length → 0 ≤ (avgTo step ws j).getD i 0 ∧ (avgTo step ws j).getD i 0 ≤ j
  zero : ∀ i, i < ws.length → ws.getD i 0 = 0 → (avgTo step ws j).getD i 0 = 0
  sum : (avgTo step ws j).sum = j
theorem all_get {ws : List Int} (h : vwB ws = true) {i : Nat} (hi : i < ws.length) : 0 ≤ ws.getD i 0 ∧ ws.getD i 0 ≤ 1000 := (allB_iff ws 1000).1 (vw_is h).1 _ (getD_mem hi)
theorem pos_some {ws : List Int} (h : vwB ws = true) : ∃ i, i < ws.length ∧ 0 < ws.getD i 0 := by
  have e := posS_all (fun i hi => (all_get h (i := i) hi).1)
  exact posS_pos (by rw [e]; exact (ws_bd h).1)
theorem fac_bd {step g j : Int} (h : 1 ≤ step ∧ step ≤ 2) (hg : 0 ≤ g ∧ g ≤ j) (hj : j ≤ 1000) : 0 < step * g + 1 ∧ step * g + 1 ≤ 2001 := by
  have a := Int.mul_nonneg (a := step) (by omega) hg.1
  have b : step * g ≤ 2 * 1000 := Int.mul_le_mul h.2 (by omega) hg.1 (by omega)
  omega
theorem avg_trans {x y z a b c : Int} (hy : 0 < b) (ha : 0 < a) (hc : 0 < c)(h1 : x * b ≥ y * a) (h2 : y * c ≥ z * b) : x * c ≥ z * a := by
  have k1 : y * a * c ≤ x * b * c := Int.mul_le_mul_of_nonneg_right h1 (by omega)
  have k2 : z * b * a ≤ y * c * a := Int.mul_le_mul_of_nonneg_right h2 (by omega)
  have k3 : z * a * b ≤ x * c * b := by
    rw [Int.mul_right_comm z a b, Int.mul_right_comm x c b]
    rw [Int.mul_right_comm y c a] at k2
    omega
  exact Int.le_of_mul_le_mul_right k3 hy
theorem avg_max {step : Int} {ws : List Int} {j : Nat} (hv : vwB ws = true) (hs : 1 ≤ step ∧ step ≤ 2) (hj : j ≤ 1000) (H : Avg step ws j) {i : Nat} (hi : i < ws.length) :
    ws.getD i 0 * (step * (avgTo step ws j).getD (pickB (avgB step ws (avgTo step ws j)) ws.length) 0 + 1) ≤ ws.getD (pickB (avgB step ws (avgTo step ws j)) ws.length) 0 * (step * (avgTo step ws j).getD i 0 + 1) := by
  have hb := fun i (hi : i < ws.length) => fac_bd hs (H.bd i hi) (by omega)
  have hall := fun i (hi : i < ws.length) => all_get hv hi
  have key : ∀ k, k ≤ ws.length → ∀ i, i < k → ws.getD i 0 * (step * (avgTo step ws j).getD (pickB (avgB step ws (avgTo step ws j)) k) 0 + 1) ≤ ws.getD (pickB (avgB step ws (avgTo step ws j)) k) 0 * (step * (avgTo step ws j).getD i 0 + 1) := by
    intro k
    induction k with
    | zero => intro _ i h; omega
    | succ k ih =>
      intro hk i hik
      rw [pickB_succ]
      cases hR : avgB step ws (avgTo step ws j) k (pickB (avgB step ws (avgTo step ws j)) k) with
      | true =>
        simp only [if_true]
        have hR := avgB_true hR
        by_cases e : i = k
        · subst e; exact Int.le_refl _
        · have hp : pickB (avgB step ws (avgTo step ws j)) k < k := pickB_lt' (by omega)
          have := ih (by omega) i (by omega)
          exact avg_trans (hb _ (by omega)).1 (hb _ (by omega)).1 (hb _ (by omega)).1 (Int.le_of_lt hR) this
      | false =>
        simp only [Bool.false_eq_true, if_false]
        have hR := avgB_false hR
        by_cases e : i = k
        · subst e; exact hR
        · exact ih (by omega) i (by omega)
  exact key ws.length (Nat.le_refl _) i hi
theorem avg_pos {step : Int} {ws : List Int} {j : Nat} (hv : vwB ws = true) (hs : 1 ≤ step ∧ step ≤ 2) (hj : j ≤ 1000) (H : Avg step ws j) :
    pickB (avgB step ws (avgTo step ws j)) ws.length < ws.length ∧ 0 < ws.getD (pickB (avgB step ws (avgTo step ws j)) ws.length) 0 := by
  have hp : pickB (avgB step ws (avgTo step ws j)) ws.length < ws.length := pickB_lt' (ws_ne hv)
  refine ⟨hp, ?_⟩
  obtain ⟨i, hi, hw⟩ := pos_some hv
  have hm := avg_max hv hs hj H hi
  have h1 := (fac_bd hs (H.bd _ hp) (by omega)).1
  have h2 := (fac_bd hs (H.bd _ hi) (by omega)).1
  have h3 := Int.mul_pos hw h1
  by_cases h : 0 < ws.getD (pickB (avgB step ws (avgTo step ws j)) ws.length) 0
  · exact h
  · have : ws.getD (pickB (avgB step ws (avgTo step ws j)) ws.length) 0 = 0 := by have := (all_get hv hp).1; omega
    rw [this, Int.zero_mul] at hm; omega
theorem avg_is {step : Int} {ws : List Int} (hv : vwB ws = true) (hs : 1 ≤ step ∧ step ≤ 2) : ∀ j, j ≤ 1000 → Avg step ws j := by
  intro j
  induction j with
  | zero =>
    intro _
    have hz : ∀ i, (avgTo step ws 0).getD i 0 = 0 := fun i => by
      show (List.replicate ws.length (0 : Int)).getD i 0 = 0
      rw [List.getD_eq_getElem?_getD, List.getElem?_replicate]; split <;> rfl
    refine ⟨fun i hi => ?_, fun i hi _ => hz i, ?_⟩
    · rw [hz i]; omega
    · show (List.replicate ws.length (0 : Int)).sum = _
      simp
  | succ j ih =>
    intro hj
    have H := ih (by omega)
    obtain ⟨hp, hw⟩ := avg_pos hv hs (by omega) H
    have hl := avgTo_len step ws j
    have e := avgTo_succ step ws j
    generalize pickB (avgB step ws (avgTo step ws j)) ws.length = b at hp hw e
    have g1 := fun i => getD_set (avgTo step ws j) b ((avgTo step ws j).getD b 0 + 1) (by omega) i
    rw [← e] at g1
    refine ⟨fun i hi => ?_, fun i hi h0 => ?_, ?_⟩
    · rw [g1 i]
      have hb := H.bd b hp
      have hi' := H.bd i hi
      split <;> omega
    · rw [g1 i]
      by_cases eb : i = b
      · subst eb; omega
      · rw [if_neg eb]; exact H.zero i hi h0
    · rw [e, sum_set _ _ _ (by omega), H.sum]; simp; omega
end Go.Proofs.Ytojkgabkiagjdac
