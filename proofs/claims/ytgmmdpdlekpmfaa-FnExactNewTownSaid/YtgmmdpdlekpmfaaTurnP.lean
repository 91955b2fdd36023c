/- Rotations as lists of turns (pure): sums of hours, whose turn it is, counts of hours. No condition but those stated. -/
import Derived.Test.YtgmmdpdlekpmfaaGrB
namespace Go.Proofs.Ytgmmdpdlekpmfaa

/-- the sum of the hours -/
def sumT : List Tn → Int
  | [] => 0
  | h :: t => h.2 + sumT t
theorem sumT_append (a b : List Tn) : sumT (a ++ b) = sumT a + sumT b := by
  induction a with
  | nil => show sumT b = 0 + sumT b; omega
  | cons h t ih => show h.2 + sumT (t ++ b) = h.2 + sumT t + sumT b; rw [ih]; omega
theorem sumT_succ {ts : List Tn} {k : Nat} (h : k < ts.length) : sumT (ts.take (k + 1)) = sumT (ts.take k) + (ts.getD k tn0).2 := by
  rw [take_snocD ts h tn0, sumT_append]
  show _ + ((ts.getD k tn0).2 + 0) = _
  omega
/-- a turn that can be -/
def okT (ts : List Tn) (k : Nat) : Bool := decide (1 ≤ (ts.getD k tn0).1) && decide ((ts.getD k tn0).1 ≤ 999) && decide (1 ≤ (ts.getD k tn0).2) && decide ((ts.getD k tn0).2 ≤ 336)
theorem okT_iff (ts : List Tn) (k : Nat) : okT ts k = true ↔ 1 ≤ (ts.getD k tn0).1 ∧ (ts.getD k tn0).1 ≤ 999 ∧ 1 ≤ (ts.getD k tn0).2 ∧ (ts.getD k tn0).2 ≤ 336 := by
  unfold okT; simp only [Bool.and_eq_true, decide_eq_true_eq, and_assoc]
theorem okT_no {ts : List Tn} {k : Nat} (h : ¬ (1 ≤ (ts.getD k tn0).1 ∧ (ts.getD k tn0).1 ≤ 999 ∧ 1 ≤ (ts.getD k tn0).2 ∧ (ts.getD k tn0).2 ≤ 336)) : okT ts k = false := by
  rw [Bool.eq_false_iff]; exact fun c => h ((okT_iff ts k).1 c)
def allT (ts : List Tn) : Bool := (List.range ts.length).all (okT ts)
/-- a valid rotation -/
def vtB (ts : List Tn) : Bool := decide (1 ≤ ts.length) && decide (ts.length ≤ 24) && allT ts && decide (sumT ts ≤ 336)
theorem sumT_bd {ts : List Tn} : ∀ k, k ≤ ts.length → (∀ j, j < k → okT ts j = true) → (k : Int) ≤ sumT (ts.take k) ∧ sumT (ts.take k) ≤ 336 * (k : Int) := by
  intro k
  induction k with
  | zero => intro _ _; exact ⟨by show (0 : Int) ≤ 0; omega, by show (0 : Int) ≤ 336 * ((0 : Nat) : Int); omega⟩
  | succ k ih =>
    intro hk h
    have a := ih (by omega) (fun j hj => h j (by omega))
    have b := (okT_iff ts k).1 (h k (by omega))
    rw [sumT_succ (by omega)]
    omega
theorem sumT_all (ts : List Tn) : sumT (ts.take ts.length) = sumT ts := by rw [List.take_of_length_le (Nat.le_refl _)]
theorem vt_is {ts : List Tn} (h : vtB ts = true) : 1 ≤ ts.length ∧ ts.length ≤ 24 ∧ (∀ j, j < ts.length → okT ts j = true) ∧ 1 ≤ sumT ts ∧ sumT ts ≤ 336 := by
  unfold vtB allT at h
  simp only [Bool.and_eq_true, decide_eq_true_eq, rng_all] at h
  obtain ⟨⟨⟨a, b⟩, c⟩, d⟩ := h
  have := (sumT_bd ts.length (Nat.le_refl _) c).1
  rw [sumT_all] at this
  exact ⟨a, b, c, by omega, d⟩
theorem vt_no0 {ts : List Tn} (h : ts.length < 1) : vtB ts = false := by unfold vtB; rw [decide_eq_false (by omega : ¬ 1 ≤ ts.length)]; rfl
theorem vt_no1 {ts : List Tn} (h : 24 < ts.length) : vtB ts = false := by unfold vtB; rw [decide_eq_false (by omega : ¬ ts.length ≤ 24)]; simp
theorem vt_no2 {ts : List Tn} {k : Nat} (hk : k < ts.length) (h : okT ts k = false) : vtB ts = false := by unfold vtB allT; rw [rng_no hk h]; simp
theorem vt_end {ts : List Tn} (h1 : 1 ≤ ts.length) (h2 : ts.length ≤ 24) (h3 : ∀ j, j < ts.length → okT ts j = true) : vtB ts = decide (sumT ts ≤ 336) := by
  unfold vtB allT; rw [decide_eq_true h1, decide_eq_true h2, rng_yes h3]; rfl
/-- the index of the turn at a time of the first period -/
def idxT : List Tn → Int → Nat
  | [], _ => 0
  | h :: r, t => if t < h.2 then 0 else idxT r (t - h.2) + 1
theorem sumT_pos : ∀ (k : Nat) (ts : List Tn), (∀ j, j < k → 0 ≤ (ts.getD j tn0).2) → 0 ≤ sumT (ts.take k) := by
  intro k
  induction k with
  | zero => intro ts _; exact Int.le_refl _
  | succ k ih =>
    intro ts h
    cases ts with
    | nil => exact Int.le_refl _
    | cons x r =>
      have a := ih r (fun j hj => h (j + 1) (by omega))
      have b : 0 ≤ x.2 := h 0 (by omega)
      show 0 ≤ x.2 + sumT (r.take k)
      omega
theorem idx_at : ∀ (k : Nat) (ts : List Tn) (t : Int), k < ts.length → (∀ j, j < ts.length → 0 ≤ (ts.getD j tn0).2) → sumT (ts.take k) ≤ t → t < sumT (ts.take (k + 1)) → idxT ts t = k := by
  intro k
  induction k with
  | zero =>
    intro ts t hk hp h1 h2
    cases ts with
    | nil => simp at hk
    | cons x r =>
      have h2 : t < x.2 + 0 := h2
      show (if t < x.2 then 0 else _) = 0
      rw [if_pos (by omega)]
  | succ k ih =>
    intro ts t hk hp h1 h2
    cases ts with
    | nil => simp at hk
    | cons x r =>
      have h1 : x.2 + sumT (r.take k) ≤ t := h1
      have h2 : t < x.2 + sumT (r.take (k + 1)) := h2
      have hk' : k < r.length := by simpa using hk
      have p := sumT_pos k r (fun j hj => hp (j + 1) (by simp; omega))
      show (if t < x.2 then 0 else idxT r (t - x.2) + 1) = k + 1
      rw [if_neg (by omega), ih r (t - x.2) hk' (fun j hj => hp (j + 1) (by simp; omega)) (by omega) (by omega)]
theorem idx_lt : ∀ (ts : List Tn) (t : Int), t < sumT ts → 0 ≤ t → idxT ts t < ts.length := by
  intro ts
  induction ts with
  | nil => intro t h h0; have h : t < 0 := h; omega
  | cons x r ih =>
    intro t h h0
    have h : t < x.2 + sumT r := h
    show (if t < x.2 then 0 else idxT r (t - x.2) + 1) < r.length + 1
    by_cases c : t < x.2
    · rw [if_pos c]; omega
    · rw [if_neg c]; have := ih (t - x.2) (by omega) (by omega); omega
/-- the owner at a time of the first period -/
def whoT (ts : List Tn) (t : Int) : Int := (ts.getD (idxT ts t) tn0).1
/-- the owner at any time -/
def whoM (ts : List Tn) (t : Int) : Int := whoT ts (t % sumT ts)
/-- the owners of the first period, hour by hour -/
def ownT (ts : List Tn) : List Int := (List.range (sumT ts).toNat).map fun (j : Nat) => whoT ts (j : Int)
theorem ownT_len (ts : List Tn) : (ownT ts).length = (sumT ts).toNat := by unfold ownT; simp
theorem ownT_get (ts : List Tn) {j : Nat} (h : j < (sumT ts).toNat) : (ownT ts).getD j 0 = whoT ts (j : Int) := by
  unfold ownT
  rw [List.getD_eq_getElem?_getD, List.getElem?_map, List.getElem?_range h]; rfl
/-- how many of m times from a on are such -/
def cntF (p : Int → Bool) (a : Int) : Nat → Int
  | 0 => 0
  | m + 1 => cntF p a m + (if p (a + (m : Int)) then 1 else 0)
theorem cnt_bd (p : Int → Bool) (a : Int) : ∀ m, 0 ≤ cntF p a m ∧ cntF p a m ≤ (m : Int) := by
  intro m
  induction m with
  | zero => exact ⟨Int.le_refl _, Int.le_refl _⟩
  | succ m ih =>
    show 0 ≤ cntF p a m + _ ∧ cntF p a m + _ ≤ _
    split <;> omega
/-- the first of m times from t on that is such -/
def nxtF (p : Int → Bool) : Nat → Int → Int
  | 0, _ => -1
  | m + 1, t => if p t = true then t else nxtF p m (t + 1)
def isNi (t : Int) : Bool := decide (t % 24 < 6) || decide (20 ≤ t % 24)
def whoV (ts : List Tn) (t : Int) : Int := if vtB ts && (decide (0 ≤ t) && decide (t ≤ 5000)) then whoM ts t else -1
def startV (ts : List Tn) (i : Int) : Int := if vtB ts && (decide (0 ≤ i) && decide (i < (ts.length : Int))) then sumT (ts.take i.toNat) else -1
def perV (ts : List Tn) : Int := if vtB ts then sumT ts else -1
/-- how many times are looked at -/
def fuelT (ts : List Tn) (t : Int) : Nat := (min (sumT ts) (5001 - t)).toNat
def nextV (ts : List Tn) (o t : Int) : Int := if vtB ts && (decide (0 ≤ t) && decide (t ≤ 5000)) then nxtF (fun n => whoM ts n == o) (fuelT ts t) t else -1
def timesB (a b : Int) : Bool := decide (0 ≤ a) && decide (a ≤ b) && decide (b ≤ 5000)
def hoursV (ts : List Tn) (o a b : Int) : Int := if vtB ts && timesB a b then cntF (fun n => whoM ts n == o) a (b - a).toNat else -1
def nightsV (ts : List Tn) (o a b : Int) : Int := if vtB ts && timesB a b then cntF (fun n => (whoM ts n == o) && isNi n) a (b - a).toNat else -1
def evenV (ts : List Tn) : Int := if vtB ts then sumT ts / (Int.gcd (sumT ts) 24 : Int) * 24 else -1
theorem nxt_succ (p : Int → Bool) (m : Nat) (t : Int) : nxtF p (m + 1) t = if p t = true then t else nxtF p m (t + 1) := rfl
theorem cnt_succ (p : Int → Bool) (a : Int) (m : Nat) : cntF p a (m + 1) = cntF p a m + (if p (a + (m : Int)) then 1 else 0) := rfl
end Go.Proofs.Ytgmmdpdlekpmfaa
