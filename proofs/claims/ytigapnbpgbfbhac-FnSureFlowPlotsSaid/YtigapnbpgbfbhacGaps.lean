/- Sums over places; gaps of numbers: no division is more equal than equal gains. No condition but those stated. -/
import Derived.Test.YtigapnbpgbfbhacGrA
namespace Go.Proofs.Ytigapnbpgbfbhac

/-- the sum of the first m values -/
def sumF (f : Nat → Int) : Nat → Int
  | 0 => 0
  | k + 1 => sumF f k + f k
theorem sumF_succ (f : Nat → Int) (k : Nat) : sumF f (k + 1) = sumF f k + f k := rfl
theorem sumF_congr {f g : Nat → Int} : ∀ m, (∀ k, k < m → f k = g k) → sumF f m = sumF g m := by
  intro m
  induction m with
  | zero => intro _; rfl
  | succ m ih => intro h; rw [sumF_succ, sumF_succ, ih (fun k hk => h k (by omega)), h m (by omega)]
theorem sumF_le {f g : Nat → Int} : ∀ m, (∀ k, k < m → f k ≤ g k) → sumF f m ≤ sumF g m := by
  intro m
  induction m with
  | zero => intro _; exact Int.le_refl _
  | succ m ih => intro h; rw [sumF_succ, sumF_succ]; have := ih (fun k hk => h k (by omega)); have := h m (by omega); omega
theorem sumF_add (f g : Nat → Int) : ∀ m, sumF (fun k => f k + g k) m = sumF f m + sumF g m := by
  intro m
  induction m with
  | zero => rfl
  | succ m ih => rw [sumF_succ, sumF_succ, sumF_succ, ih]; omega
theorem sumF_zero : ∀ m, sumF (fun _ => 0) m = 0 := by
  intro m
  induction m with
  | zero => rfl
  | succ m ih => rw [sumF_succ, ih]; rfl
theorem sumF_one (i : Nat) (v : Int) : ∀ m, sumF (fun k => if k = i then v else 0) m = if i < m then v else 0 := by
  intro m
  induction m with
  | zero => rfl
  | succ m ih =>
    rw [sumF_succ, ih]
    by_cases h1 : i < m
    · rw [if_pos h1, if_neg (by omega), if_pos (by omega)]; omega
    · by_cases h2 : m = i
      · rw [if_neg h1, if_pos h2, if_pos (by omega)]; omega
      · rw [if_neg h1, if_neg h2, if_neg (by omega)]; rfl
/-- without the places i and k -/
def but (f : Nat → Int) (i k : Nat) : Nat → Int := fun j => if j = i ∨ j = k then 0 else f j
theorem sumF_two (f : Nat → Int) {m i k : Nat} (hi : i < m) (hk : k < m) (h : i ≠ k) : sumF f m = f i + f k + sumF (but f i k) m := by
  have e : sumF f m = sumF (fun j => ((if j = i then f i else 0) + (if j = k then f k else 0)) + but f i k j) m := sumF_congr m (fun j _ => by
    unfold but
    by_cases a : j = i
    · rw [if_pos a, if_neg (by omega), if_pos (.inl a), a]; omega
    · by_cases b : j = k
      · rw [if_neg a, if_pos b, if_pos (.inr b), b]; omega
      · rw [if_neg a, if_neg b, if_neg (by omega)]; omega)
  rw [e, sumF_add, sumF_add, sumF_one, sumF_one, if_pos hi, if_pos hk]
def gapD (a b : Int) : Int := if a < b then b - a else a - b
theorem gapD_comm (a b : Int) : gapD a b = gapD b a := by unfold gapD; split <;> split <;> omega
theorem gapD_nonneg (a b : Int) : 0 ≤ gapD a b := by unfold gapD; split <;> omega
theorem gapD_less {a b : Int} (h : a < b) : gapD a b = b - a := by unfold gapD; rw [if_pos h]
theorem gapD_more {a b : Int} (h : b ≤ a) : gapD a b = a - b := by unfold gapD; rw [if_neg (by omega)]
theorem gapD_self (a : Int) : gapD a a = 0 := by unfold gapD; split <;> omega
/-- the gaps of all pairs, each once -/
def gapT (f : Nat → Int) (m : Nat) : Int := sumF (fun i => sumF (fun k => gapD (f i) (f k)) i) m
/-- the gaps of all pairs, each twice -/
def gapG (f : Nat → Int) (m : Nat) : Int := sumF (fun i => sumF (fun k => gapD (f i) (f k)) m) m
theorem gapG_two (f : Nat → Int) : ∀ m, gapG f m = 2 * gapT f m := by
  intro m
  induction m with
  | zero => rfl
  | succ m ih =>
    unfold gapG gapT at *
    rw [sumF_succ (fun i => sumF (fun k => gapD (f i) (f k)) i), Int.mul_add, ← ih, sumF_succ]
    have e : sumF (fun i => sumF (fun k => gapD (f i) (f k)) (m + 1)) m = sumF (fun i => sumF (fun k => gapD (f i) (f k)) m + gapD (f i) (f m)) m := sumF_congr m (fun i _ => rfl)
    rw [e, sumF_add]
    show _ + (sumF (fun k => gapD (f m) (f k)) m + gapD (f m) (f m)) = _
    rw [gapD_self, sumF_congr (f := fun i => gapD (f i) (f m)) (g := fun k => gapD (f m) (f k)) m (fun i _ => gapD_comm _ _)]
    omega
/-- a unit moved from k to i -/
def moved (f : Nat → Int) (i k : Nat) : Nat → Int := fun j => f j + (if j = i then 1 else 0) - (if j = k then 1 else 0)
theorem moved_i {f : Nat → Int} {i k : Nat} (h : i ≠ k) : moved f i k i = f i + 1 := by unfold moved; rw [if_pos rfl, if_neg h]; omega
theorem moved_k {f : Nat → Int} {i k : Nat} (h : i ≠ k) : moved f i k k = f k - 1 := by unfold moved; rw [if_neg (fun e => h e.symm), if_pos rfl]; omega
theorem moved_j {f : Nat → Int} {i k j : Nat} (h : ¬ (j = i ∨ j = k)) : moved f i k j = f j := by unfold moved; rw [if_neg (by omega), if_neg (by omega)]; omega
theorem moved_sum (f : Nat → Int) {m i k : Nat} (hi : i < m) (hk : k < m) : sumF (moved f i k) m = sumF f m := by
  have e : sumF (moved f i k) m = sumF (fun j => f j + ((if j = i then 1 else 0) + (if j = k then -1 else 0))) m := sumF_congr m (fun j _ => by unfold moved; split <;> split <;> omega)
  rw [e, sumF_add, sumF_add, sumF_one, sumF_one, if_pos hi, if_pos hk]; omega
theorem gap_parts (f : Nat → Int) {m i k : Nat} (hi : i < m) (hk : k < m) (h : i ≠ k) :
    gapG f m = 2 * gapD (f i) (f k) + 2 * sumF (but (fun l => gapD (f i) (f l) + gapD (f k) (f l)) i k) m + sumF (but (fun j => sumF (but (fun l => gapD (f j) (f l)) i k) m) i k) m := by
  unfold gapG
  rw [sumF_two _ hi hk h]
  have row : ∀ j, sumF (fun l => gapD (f j) (f l)) m = gapD (f j) (f i) + gapD (f j) (f k) + sumF (but (fun l => gapD (f j) (f l)) i k) m := fun j => sumF_two _ hi hk h
  rw [row i, row k, gapD_self, gapD_self, gapD_comm (f k) (f i)]
  have e : sumF (but (fun j => sumF (fun l => gapD (f j) (f l)) m) i k) m = sumF (but (fun l => gapD (f i) (f l) + gapD (f k) (f l)) i k) m + sumF (but (fun j => sumF (but (fun l => gapD (f j) (f l)) i k) m) i k) m := by
    rw [← sumF_add]
    refine sumF_congr m (fun j _ => ?_)
    unfold but
    split
    · rfl
    · have := row j
      unfold but at this
      dsimp only at this ⊢
      rw [this, gapD_comm (f j) (f i), gapD_comm (f j) (f k)]
  have e2 : sumF (but (fun l => gapD (f i) (f l)) i k) m + sumF (but (fun l => gapD (f k) (f l)) i k) m = sumF (but (fun l => gapD (f i) (f l) + gapD (f k) (f l)) i k) m := by
    rw [← sumF_add]
    refine sumF_congr m (fun j _ => ?_)
    unfold but
    split <;> rfl
  rw [e, ← e2]; omega
/-- a unit that goes to one that has less takes gaps away -/
theorem gap_move (f : Nat → Int) {m i k : Nat} (hi : i < m) (hk : k < m) (h : f i + 1 ≤ f k) : gapT (moved f i k) m ≤ gapT f m := by
  have hne : i ≠ k := fun e => by subst e; omega
  have a := gapG_two f m
  have b := gapG_two (moved f i k) m
  rw [gap_parts f hi hk hne] at a
  rw [gap_parts (moved f i k) hi hk hne, moved_i hne, moved_k hne] at b
  have c1 : gapD (f i + 1) (f k - 1) ≤ gapD (f i) (f k) := by unfold gapD; split <;> split <;> omega
  have c2 : sumF (but (fun l => gapD (f i + 1) (moved f i k l) + gapD (f k - 1) (moved f i k l)) i k) m ≤ sumF (but (fun l => gapD (f i) (f l) + gapD (f k) (f l)) i k) m := sumF_le m (fun l _ => by
    unfold but
    by_cases e : l = i ∨ l = k
    · rw [if_pos e, if_pos e]; exact Int.le_refl _
    · rw [if_neg e, if_neg e]
      dsimp only
      rw [moved_j e]
      unfold gapD
      split <;> split <;> split <;> split <;> omega)
  have c3 : sumF (but (fun j => sumF (but (fun l => gapD (moved f i k j) (moved f i k l)) i k) m) i k) m = sumF (but (fun j => sumF (but (fun l => gapD (f j) (f l)) i k) m) i k) m := sumF_congr m (fun j _ => by
    unfold but
    by_cases e : j = i ∨ j = k
    · rw [if_pos e, if_pos e]
    · rw [if_neg e, if_neg e]
      refine sumF_congr m (fun l _ => ?_)
      by_cases e2 : l = i ∨ l = k
      · rw [if_pos e2, if_pos e2]
      · rw [if_neg e2, if_neg e2]
        dsimp only
        rw [moved_j e, moved_j e2])
  omega
theorem sum_split {f g : Nat → Int} {m : Nat} (hs : sumF f m = sumF g m) : (∀ i, i < m → f i = g i) ∨ ∃ i k, i < m ∧ k < m ∧ f i < g i ∧ g k < f k := by
  have one : ∀ {f g : Nat → Int} (m : Nat), (∀ i, i < m → f i ≤ g i) → sumF f m = sumF g m → ∀ i, i < m → f i = g i := by
    intro f g m
    induction m with
    | zero => intro _ _ i hi; omega
    | succ m ih =>
      intro h e i hi
      rw [sumF_succ, sumF_succ] at e
      have a := sumF_le m (fun k hk => h k (by omega))
      have b := h m (by omega)
      by_cases c : i = m
      · subst c; omega
      · exact ih (fun k hk => h k (by omega)) (by omega) i (by omega)
  by_cases h1 : ∃ i, i < m ∧ f i < g i
  · by_cases h2 : ∃ k, k < m ∧ g k < f k
    · obtain ⟨i, hi, a⟩ := h1
      obtain ⟨k, hk, b⟩ := h2
      exact .inr ⟨i, k, hi, hk, a, b⟩
    · refine .inl (one m (fun i hi => ?_) hs)
      by_cases c : g i < f i
      · exact absurd ⟨i, hi, c⟩ h2
      · omega
  · refine .inl (fun i hi => (one m (fun i hi => ?_) hs.symm i hi).symm)
    by_cases c : f i < g i
    · exact absurd ⟨i, hi, c⟩ h1
    · omega
/-- P79: x gives equal gains; y is another division of as many units among the claims c -/
theorem gains_least {c x : Nat → Int} {m : Nat} (hx : ∀ i k, i < m → k < m → x i < c i → x k ≤ x i + 1) (hxc : ∀ i, i < m → x i ≤ c i) : ∀ (d : Nat) (y : Nat → Int), sumF (fun i => gapD (y i) (x i)) m ≤ (d : Int) → (∀ i, i < m → y i ≤ c i) → sumF y m = sumF x m → gapT x m ≤ gapT y m := by
  intro d
  induction d with
  | zero =>
    intro y hd hc hs
    have h0 : ∀ i, i < m → y i = x i := by
      rcases sum_split hs with h | ⟨i, k, hi, hk, a, b⟩
      · exact h
      · exfalso
        have := sumF_two (fun i => gapD (y i) (x i)) hi hk (fun e => by subst e; omega)
        have p : 0 ≤ sumF (but (fun i => gapD (y i) (x i)) i k) m := by
          rw [← sumF_zero m]
          refine sumF_le m (fun j _ => ?_)
          unfold but
          by_cases e : j = i ∨ j = k
          · rw [if_pos e]; exact Int.le_refl _
          · rw [if_neg e]
            show 0 ≤ gapD (y j) (x j)
            exact gapD_nonneg _ _
        have q : gapD (y i) (x i) = x i - y i := by unfold gapD; rw [if_pos a]
        have r : gapD (y k) (x k) = y k - x k := by unfold gapD; rw [if_neg (by omega)]
        have this' : sumF (fun i => gapD (y i) (x i)) m = gapD (y i) (x i) + gapD (y k) (x k) + sumF (but (fun i => gapD (y i) (x i)) i k) m := this
        omega
    have : gapT x m = gapT y m := sumF_congr m (fun i hi => sumF_congr i (fun k hk => by rw [h0 i hi, h0 k (by omega)]))
    omega
  | succ d ih =>
    intro y hd hc hs
    rcases sum_split hs with h0 | ⟨i, k, hi, hk, a, b⟩
    · have : gapT x m = gapT y m := sumF_congr m (fun i hi => sumF_congr i (fun k hk => by rw [h0 i hi, h0 k (by omega)]))
      omega
    · have hne : i ≠ k := fun e => by subst e; omega
      have hck := hc k hk
      have hci := hc i hi
      have l1 := hx k i hk hi (by omega)
      have step := gap_move y hi hk (by omega)
      refine Int.le_trans (ih (moved y i k) ?_ (fun j hj => ?_) (by rw [moved_sum y hi hk, hs])) step
      · have e1 := sumF_two (fun i => gapD (y i) (x i)) hi hk hne
        have e2 := sumF_two (fun j => gapD (moved y i k j) (x j)) hi hk hne
        have e3 : sumF (but (fun j => gapD (moved y i k j) (x j)) i k) m = sumF (but (fun i => gapD (y i) (x i)) i k) m := sumF_congr m (fun j _ => by
          unfold but
          by_cases e : j = i ∨ j = k
          · rw [if_pos e, if_pos e]
          · rw [if_neg e, if_neg e]
            dsimp only
            rw [moved_j e])
        have q1 : gapD (moved y i k i) (x i) + 1 = gapD (y i) (x i) := by
          rw [moved_i hne, gapD_less a]
          by_cases e : y i + 1 < x i
          · rw [gapD_less e]; omega
          · rw [gapD_more (by omega)]; omega
        have q2 : gapD (moved y i k k) (x k) + 1 = gapD (y k) (x k) := by
          rw [moved_k hne, gapD_more (by omega : x k ≤ y k), gapD_more (by omega)]; omega
        have e1' : sumF (fun i => gapD (y i) (x i)) m = gapD (y i) (x i) + gapD (y k) (x k) + sumF (but (fun i => gapD (y i) (x i)) i k) m := e1
        have e2' : sumF (fun j => gapD (moved y i k j) (x j)) m = gapD (moved y i k i) (x i) + gapD (moved y i k k) (x k) + sumF (but (fun j => gapD (moved y i k j) (x j)) i k) m := e2
        omega
      · by_cases e : j = i
        · subst e; rw [moved_i hne]; have := hxc j hj; omega
        · by_cases e2 : j = k
          · subst e2; rw [moved_k hne]; have := hc j hj; omega
          · rw [moved_j (by omega)]; exact hc j hj
end Go.Proofs.Ytigapnbpgbfbhac
