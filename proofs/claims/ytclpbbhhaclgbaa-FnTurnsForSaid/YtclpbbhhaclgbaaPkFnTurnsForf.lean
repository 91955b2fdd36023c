/- Contracts and facts of functions of this program, in build order. Conditions: those stated in each. -/
import Derived.Test.YtclpbbhhaclgbaaPkFnTurnsFore
import Derived.Deep.RegionHeld3
import Derived.Deep.QuietTactic
import Derived.Deep.DeepCutAuto
namespace Go.Proofs.Ytclpbbhhaclgbaa

/-- the sum of the first m values -/
def sumF (f : Nat → Int) : Nat → Int
  | 0 => 0
  | k + 1 => sumF f k + f k
theorem sumF_succ (f : Nat → Int) (k : Nat) : sumF f (k + 1) = sumF f k + f k := rfl
theorem sumF_congr {f g : Nat → Int} : ∀ m, (∀ k, k < m → f k = g k) → sumF f m = sumF g m := by
  intro m
  induction m with
  | zero => intro _; rfl
  | succ m ih => intro h; rw [sumF_succ, sumF_succ, ih (fun k hk => h k (by omega)), h m (by omega)]
theorem sumF_le {f g : Nat → Int} : ∀ m, (∀ k, k < m → f k ≤ g k) → sumF f m ≤ sumF g m := by
  intro m
  induction m with
  | zero => intro _; exact Int.le_refl _
  | succ m ih => intro h; rw [sumF_succ, sumF_succ]; have := ih (fun k hk => h k (by omega)); have := h m (by omega); omega
theorem sumF_add (f g : Nat → Int) : ∀ m, sumF (fun k => f k + g k) m = sumF f m + sumF g m := by
  intro m
  induction m with
  | zero => rfl
  | succ m ih => rw [sumF_succ, sumF_succ, sumF_succ, ih]; omega
theorem sumF_zero : ∀ m, sumF (fun _ => 0) m = 0 := by
  intro m
  induction m with
  | zero => rfl
  | succ m ih => rw [sumF_succ, ih]; rfl
theorem sumF_one (i : Nat) (v : Int) : ∀ m, sumF (fun k => if k = i then v else 0) m = if i < m then v else 0 := by
  intro m
  induction m with
  | zero => rfl
  | succ m ih =>
    rw [sumF_succ, ih]
    by_cases h1 : i < m
    · rw [if_pos h1, if_neg (by omega), if_pos (by omega)]; omega
    · by_cases h2 : m = i
      · rw [if_neg h1, if_pos h2, if_pos (by omega)]; omega
      · rw [if_neg h1, if_neg h2, if_neg (by omega)]; rfl
/-- without the places i and k -/
def but (f : Nat → Int) (i k : Nat) : Nat → Int := fun j => if j = i ∨ j = k then 0 else f j
theorem sumF_two (f : Nat → Int) {m i k : Nat} (hi : i < m) (hk : k < m) (h : i ≠ k) : sumF f m = f i + f k + sumF (but f i k) m := by
  have e : sumF f m = sumF (fun j => ((if j = i then f i else 0) + (if j = k then f k else 0)) + but f i k j) m := sumF_congr m (fun j _ => by
    unfold but
    by_cases a : j = i
    · rw [if_pos a, if_neg (by omega), if_pos (.inl a), a]; omega
    · by_cases b : j = k
      · rw [if_neg a, if_pos b, if_pos (.inr b), b]; omega
      · rw [if_neg a, if_neg b, if_neg (by omega)]; omega)
  rw [e, sumF_add, sumF_add, sumF_one, sumF_one, if_pos hi, if_pos hk]
def gapD (a b : Int) : Int := if a < b then b - a else a - b
theorem gapD_comm (a b : Int) : gapD a b = gapD b a := by unfold gapD; split <;> split <;> omega
theorem gapD_nonneg (a b : Int) : 0 ≤ gapD a b := by unfold gapD; split <;> omega
theorem gapD_less {a b : Int} (h : a < b) : gapD a b = b - a := by unfold gapD; rw [if_pos h]
theorem gapD_more {a b : Int} (h : b ≤ a) : gapD a b = a - b := by unfold gapD; rw [if_neg (by omega)]
theorem gapD_self (a : Int) : gapD a a = 0 := by unfold gapD; split <;> omega
/-- the gaps of all pairs, each once -/
def gapT (f : Nat → Int) (m : Nat) : Int := sumF (fun i => sumF (fun k => gapD (f i) (f k)) i) m
/-- the gaps of all pairs, each twice -/
def gapG (f : Nat → Int) (m : Nat) : Int := sumF (fun i => sumF (fun k => gapD (f i) (f k)) m) m
theorem gapG_two (f : Nat → Int) : ∀ m, gapG f m = 2 * gapT f m := by
  intro m
  induction m with
  | zero => rfl
  | succ m ih =>
    unfold gapG gapT at *
    rw [sumF_succ (fun i => sumF (fun k => gapD (f i) (f k)) i), Int.mul_add, ← ih, sumF_succ]
    have e : sumF (fun i => sumF (fun k => gapD (f i) (f k)) (m + 1)) m = sumF (fun i => sumF (fun k => gapD (f i) (f k)) m + gapD (f i) (f m)) m := sumF_congr m (fun i _ => rfl)
    rw [e, sumF_add]
    show _ + (sumF (fun k => gapD (f m) (f k)) m + gapD (f m) (f m)) = _
    rw [gapD_self, sumF_congr (f := fun i => gapD (f i) (f m)) (g := fun k => gapD (f m) (f k)) m (fun i _ => gapD_comm _ _)]
    omega
/-- a unit moved from k to i -/
def moved (f : Nat → Int) (i k : Nat) : Nat → Int := fun j => f j + (if j = i then 1 else 0) - (if j = k then 1 else 0)
theorem moved_i {f : Nat → Int} {i k : Nat} (h : i ≠ k) : moved f i k i = f i + 1 := by unfold moved; rw [if_pos rfl, if_neg h]; omega
theorem moved_k {f : Nat → Int} {i k : Nat} (h : i ≠ k) : moved f i k k = f k - 1 := by unfold moved; rw [if_neg (fun e => h e.symm), if_pos rfl]; omega
theorem moved_j {f : Nat → Int} {i k j : Nat} (h : ¬ (j = i ∨ j = k)) : moved f i k j = f j := by unfold moved; rw [if_neg (by omega), if_neg (by omega)]; omega
theorem moved_sum (f : Nat → Int) {m i k : Nat} (hi : i < m) (hk : k < m) : sumF (moved f i k) m = sumF f m := by
  have e : sumF (moved f i k) m = sumF (fun j => f j + ((if j = i then 1 else 0) + (if j = k then -1 else 0))) m := sumF_congr m (fun j _ => by unfold moved; split <;> split <;> omega)
  rw [e, sumF_add, sumF_add, sumF_one, sumF_one, if_pos hi, if_pos hk]; omega
theorem gap_parts (f : Nat → Int) {m i k : Nat} (hi : i < m) (hk : k < m) (h : i ≠ k) :
    gapG f m = 2 * gapD (f i) (f k) + 2 * sumF (but (fun l => gapD (f i) (f l) + gapD (f k) (f l)) i k) m + sumF (but (fun j => sumF (but (fun l => gapD (f j) (f l)) i k) m) i k) m := by
  unfold gapG
  rw [sumF_two _ hi hk h]
  have row : ∀ j, sumF (fun l => gapD (f j) (f l)) m = gapD (f j) (f i) + gapD (f j) (f k) + sumF (but (fun l => gapD (f j) (f l)) i k) m := fun j => sumF_two _ hi hk h
  rw [row i, row k, gapD_self, gapD_self, gapD_comm (f k) (f i)]
  have e : sumF (but (fun j => sumF (fun l => gapD (f j) (f l)) m) i k) m = sumF (but (fun l => gapD (f i) (f l) + gapD (f k) (f l)) i k) m + sumF (but (fun j => sumF (but (fun l => gapD (f j) (f l)) i k) m) i k) m := by
    rw [← sumF_add]
    refine sumF_congr m (fun j _ => ?_)
    unfold but
    split
    · rfl
    · have := row j
      unfold but at this
      dsimp only at this ⊢
      rw [this, gapD_comm (f j) (f i), gapD_comm (f j) (f k)]
  have e2 : sumF (but (fun l => gapD (f i) (f l)) i k) m + sumF (but (fun l => gapD (f k) (f l)) i k) m = sumF (but (fun l => gapD (f i) (f l) + gapD (f k) (f l)) i k) m := by
    rw [← sumF_add]
    refine sumF_congr m (fun j _ => ?_)
    unfold but
    split <;> rfl
  rw [e, ← e2]; omega
/-- a unit that goes to one that has less takes gaps away -/
theorem gap_move (f : Nat → Int) {m i k : Nat} (hi : i < m) (hk : k < m) (h : f i + 1 ≤ f k) : gapT (moved f i k) m ≤ gapT f m := by
  have hne : i ≠ k := fun e => by subst e; omega
  have a := gapG_two f m
  have b := gapG_two (moved f i k) m
  rw [gap_parts f hi hk hne] at a
  rw [gap_parts (moved f i k) hi hk hne, moved_i hne, moved_k hne] at b
  have c1 : gapD (f i + 1) (f k - 1) ≤ gapD (f i) (f k) := by unfold gapD; split <;> split <;> omega
  have c2 : sumF (but (fun l => gapD (f i + 1) (moved f i k l) + gapD (f k - 1) (moved f i k l)) i k) m ≤ sumF (but (fun l => gapD (f i) (f l) + gapD (f k) (f l)) i k) m := sumF_le m (fun l _ => by
    unfold but
    by_cases e : l = i ∨ l = k
    · rw [if_pos e, if_pos e]; exact Int.le_refl _
    · rw [if_neg e, if_neg e]
      dsimp only
      rw [moved_j e]
      unfold gapD
      split <;> split <;> split <;> split <;> omega)
  have c3 : sumF (but (fun j => sumF (but (fun l => gapD (moved f i k j) (moved f i k l)) i k) m) i k) m = sumF (but (fun j => sumF (but (fun l => gapD (f j) (f l)) i k) m) i k) m := sumF_congr m (fun j _ => by
    unfold but
    by_cases e : j = i ∨ j = k
    · rw [if_pos e, if_pos e]
    · rw [if_neg e, if_neg e]
      refine sumF_congr m (fun l _ => ?_)
      by_cases e2 : l = i ∨ l = k
      · rw [if_pos e2, if_pos e2]
      · rw [if_neg e2, if_neg e2]
        dsimp only
        rw [moved_j e, moved_j e2])
  omega
theorem sum_split {f g : Nat → Int} {m : Nat} (hs : sumF f m = sumF g m) : (∀ i, i < m → f i = g i) ∨ ∃ i k, i < m ∧ k < m ∧ f i < g i ∧ g k < f k := by
  have one : ∀ {f g : Nat → Int} (m : Nat), (∀ i, i < m → f i ≤ g i) → sumF f m = sumF g m → ∀ i, i < m → f i = g i := by
    intro f g m
    induction m with
    | zero => intro _ _ i hi; omega
    | succ m ih =>
      intro h e i hi
      rw [sumF_succ, sumF_succ] at e
      have a := sumF_le m (fun k hk => h k (by omega))
      have b := h m (by omega)
      by_cases c : i = m
      · subst c; omega
      · exact ih (fun k hk => h k (by omega)) (by omega) i (by omega)
  by_cases h1 : ∃ i, i < m ∧ f i < g i
  · by_cases h2 : ∃ k, k < m ∧ g k < f k
    · obtain ⟨i, hi, a⟩ := h1
      obtain ⟨k, hk, b⟩ := h2
      exact .inr ⟨i, k, hi, hk, a, b⟩
    · refine .inl (one m (fun i hi => ?_) hs)
      by_cases c : g i < f i
      · exact absurd ⟨i, hi, c⟩ h2
      · omega
  · refine .inl (fun i hi => (one m (fun i hi => ?_) hs.symm i hi).symm)
    by_cases c : f i < g i
    · exact absurd ⟨i, hi, c⟩ h1
    · omega
/-- P79: x gives equal gains; y is another division of as many units among the claims c -/
theorem gains_least {c x : Nat → Int} {m : Nat} (hx : ∀ i k, i < m → k < m → x i < c i → x k ≤ x i + 1) (hxc : ∀ i, i < m → x i ≤ c i) : ∀ (d : Nat) (y : Nat → Int), sumF (fun i => gapD (y i) (x i)) m ≤ (d : Int) → (∀ i, i < m → y i ≤ c i) → sumF y m = sumF x m → gapT x m ≤ gapT y m := by
  intro d
  induction d with
  | zero =>
    intro y hd hc hs
    have h0 : ∀ i, i < m → y i = x i := by
      rcases sum_split hs with h | ⟨i, k, hi, hk, a, b⟩
      · exact h
      · exfalso
        have := sumF_two (fun i => gapD (y i) (x i)) hi hk (fun e => by subst e; omega)
        have p : 0 ≤ sumF (but (fun i => gapD (y i) (x i)) i k) m := by
          rw [← sumF_zero m]
          refine sumF_le m (fun j _ => ?_)
          unfold but
          by_cases e : j = i ∨ j = k
          · rw [if_pos e]; exact Int.le_refl _
          · rw [if_neg e]
            show 0 ≤ gapD (y j) (x j)
            exact gapD_nonneg _ _
        have q : gapD (y i) (x i) = x i - y i := by unfold gapD; rw [if_pos a]
        have r : gapD (y k) (x k) = y k - x k := by unfold gapD; rw [if_neg (by omega)]
        have this' : sumF (fun i => gapD (y i) (x i)) m = gapD (y i) (x i) + gapD (y k) (x k) + sumF (but (fun i => gapD (y i) (x i)) i k) m := this
        omega
    have : gapT x m = gapT y m := sumF_congr m (fun i hi => sumF_congr i (fun k hk => by rw [h0 i hi, h0 k (by omega)]))
    omega
  | succ d ih =>
    intro y hd hc hs
    rcases sum_split hs with h0 | ⟨i, k, hi, hk, a, b⟩
    · have : gapT x m = gapT y m := sumF_congr m (fun i hi => sumF_congr i (fun k hk => by rw [h0 i hi, h0 k (by omega)]))
      omega
    · have hne : i ≠ k := fun e => by subst e; omega
      have hck := hc k hk
      have hci := hc i hi
      have l1 := hx k i hk hi (by omega)
      have step := gap_move y hi hk (by omega)
      refine Int.le_trans (ih (moved y i k) ?_ (fun j hj => ?_) (by rw [moved_sum y hi hk, hs])) step
      · have e1 := sumF_two (fun i => gapD (y i) (x i)) hi hk hne
        have e2 := sumF_two (fun j => gapD (moved y i k j) (x j)) hi hk hne
        have e3 : sumF (but (fun j => gapD (moved y i k j) (x j)) i k) m = sumF (but (fun i => gapD (y i) (x i)) i k) m := sumF_congr m (fun j _ => by
          unfold but
          by_cases e : j = i ∨ j = k
          · rw [if_pos e, if_pos e]
          · rw [if_neg e, if_neg e]
            dsimp only
            rw [moved_j e])
        have q1 : gapD (moved y i k i) (x i) + 1 = gapD (y i) (x i) := by
          rw [moved_i hne, gapD_less a]
          by_cases e : y i + 1 < x i
          · rw [gapD_less e]; omega
          · rw [gapD_more (by omega)]; omega
        have q2 : gapD (moved y i k k) (x k) + 1 = gapD (y k) (x k) := by
          rw [moved_k hne, gapD_more (by omega : x k ≤ y k), gapD_more (by omega)]; omega
        have e1' : sumF (fun i => gapD (y i) (x i)) m = gapD (y i) (x i) + gapD (y k) (x k) + sumF (but (fun i => gapD (y i) (x i)) i k) m := e1
        have e2' : sumF (fun j => gapD (moved y i k j) (x j)) m = gapD (moved y i k i) (x i) + gapD (moved y i k k) (x k) + sumF (but (fun j => gapD (moved y i k j) (x j)) i k) m := e2
        omega
      · by_cases e : j = i
        · subst e; rw [moved_i hne]; have := hxc j hj; omega
        · by_cases e2 : j = k
          · subst e2; rw [moved_k hne]; have := hc j hj; omega
          · rw [moved_j (by omega)]; exact hc j hj
end Go.Proofs.Ytclpbbhhaclgbaa
namespace Go.Proofs.Ytclpbbhhaclgbaa

/-- turns: an owner and hours -/
abbrev Rota := List (Int × Nat)
def perR : Rota → Nat
  | [] => 0
  | h :: t => h.2 + perR t
/-- whose turn it is at a time of the first period -/
def whoR : Rota → Nat → Int
  | [], _ => 0
  | h :: r, t => if t < h.2 then h.1 else whoR r (t - h.2)
theorem per_append (A B : Rota) : perR (A ++ B) = perR A + perR B := by
  induction A with
  | nil => show perR B = 0 + perR B; omega
  | cons h t ih => show h.2 + perR (t ++ B) = h.2 + perR t + perR B; rw [ih]; omega
theorem who_append : ∀ (A B : Rota) (t : Nat), whoR (A ++ B) t = if t < perR A then whoR A t else whoR B (t - perR A) := by
  intro A
  induction A with
  | nil => intro B t; show whoR B t = if t < 0 then _ else _; rw [if_neg (by omega)]; rfl
  | cons h r ih =>
    intro B t
    show (if t < h.2 then h.1 else whoR (r ++ B) (t - h.2)) = if t < h.2 + perR r then (if t < h.2 then h.1 else whoR r (t - h.2)) else whoR B (t - (h.2 + perR r))
    by_cases a : t < h.2
    · rw [if_pos a, if_pos (by omega), if_pos a]
    · rw [if_neg a, ih]
      by_cases b : t - h.2 < perR r
      · rw [if_pos b, if_pos (by omega), if_neg a]
      · rw [if_neg b, if_neg (by omega)]; congr 1; omega
/-- P35: where a turn starts it is its owner's -/
theorem who_start (A : Rota) (h : Int × Nat) (B : Rota) (hh : 0 < h.2) : whoR (A ++ h :: B) (perR A) = h.1 := by
  rw [who_append, if_neg (by omega), Nat.sub_self]
  show (if 0 < h.2 then h.1 else _) = _
  rw [if_pos hh]
/-- P36: turns follow each other -/
theorem start_next (A : Rota) (h : Int × Nat) : perR (A ++ [h]) = perR A + h.2 := by rw [per_append]; show perR A + (h.2 + 0) = _; omega
/-- 1 if it is the owner's turn -/
def isO (L : Rota) (o : Int) (t : Nat) : Int := if whoR L t = o then 1 else 0
def cntR (o : Int) : Rota → Nat
  | [] => 0
  | h :: t => (if h.1 = o then h.2 else 0) + cntR o t
theorem sumF_split (f : Nat → Int) (a : Nat) : ∀ b, sumF f (a + b) = sumF f a + sumF (fun k => f (a + k)) b := by
  intro b
  induction b with
  | zero => show sumF f a = sumF f a + 0; omega
  | succ b ih => rw [show a + (b + 1) = a + b + 1 by omega, sumF_succ, sumF_succ, ih]; omega
theorem sumF_const (v : Int) : ∀ m, sumF (fun _ => v) m = v * (m : Int) := by
  intro m
  induction m with
  | zero => rw [show sumF (fun _ => v) 0 = 0 from rfl]; simp
  | succ m ih => rw [sumF_succ, ih, show ((m + 1 : Nat) : Int) = (m : Int) + 1 by omega, Int.mul_add, Int.mul_one]
/-- P38: the hours of a period are the hours of the owner's turns -/
theorem hours_period (o : Int) : ∀ L : Rota, sumF (isO L o) (perR L) = (cntR o L : Int) := by
  intro L
  induction L with
  | nil => rfl
  | cons h r ih =>
    show sumF (isO (h :: r) o) (h.2 + perR r) = (((if h.1 = o then h.2 else 0) + cntR o r : Nat) : Int)
    rw [sumF_split]
    have a : sumF (isO (h :: r) o) h.2 = sumF (fun _ => if h.1 = o then 1 else 0) h.2 := sumF_congr h.2 (fun k hk => by
      show (if (if k < h.2 then h.1 else _) = o then (1 : Int) else 0) = _
      rw [if_pos hk])
    have b : sumF (fun k => isO (h :: r) o (h.2 + k)) (perR r) = sumF (isO r o) (perR r) := sumF_congr _ (fun k _ => by
      have e : whoR (h :: r) (h.2 + k) = whoR r k := by
        show (if h.2 + k < h.2 then h.1 else whoR r (h.2 + k - h.2)) = _
        rw [if_neg (by omega), Nat.add_sub_cancel_left]
      show (if whoR (h :: r) (h.2 + k) = o then (1 : Int) else 0) = _
      rw [e]; rfl)
    rw [a, b, ih, sumF_const]
    split
    · omega
    · omega
/-- a sum over whole periods does not hang on where it begins -/
theorem sumF_turn (f : Nat → Int) {p : Nat} (hp : 0 < p) : ∀ s, sumF (fun k => f ((s + k) % p)) p = sumF f p := by
  intro s
  induction s with
  | zero => exact sumF_congr p (fun k hk => by show f ((0 + k) % p) = f k; rw [Nat.zero_add, Nat.mod_eq_of_lt hk])
  | succ s ih =>
    rw [← ih]
    obtain ⟨q, rfl⟩ : ∃ q, p = q + 1 := ⟨p - 1, by omega⟩
    have a := sumF_split (fun k => f ((s + k) % (q + 1))) 1 q
    rw [show 1 + q = q + 1 by omega] at a
    rw [a, sumF_succ]
    have b : sumF (fun k => f ((s + 1 + k) % (q + 1))) q = sumF (fun k => f ((s + (1 + k)) % (q + 1))) q := sumF_congr q (fun k _ => by show f ((s + 1 + k) % (q + 1)) = f ((s + (1 + k)) % (q + 1)); rw [Nat.add_assoc])
    rw [b]
    show _ + f ((s + 1 + q) % (q + 1)) = (0 + f ((s + 0) % (q + 1))) + _
    rw [show s + 1 + q = s + (q + 1) by omega, Nat.add_mod_right]
    simp only [Nat.add_zero]
    omega
theorem sumF_mul (f : Nat → Int) (v : Int) : ∀ m, sumF (fun k => v * f k) m = v * sumF f m := by
  intro m
  induction m with
  | zero => show (0 : Int) = v * 0; simp
  | succ m ih => rw [sumF_succ, sumF_succ, ih, Int.mul_add]
theorem sumF_swap (F : Nat → Nat → Int) (a : Nat) : ∀ b, sumF (fun i => sumF (fun k => F i k) b) a = sumF (fun k => sumF (fun i => F i k) a) b := by
  intro b
  induction b with
  | zero => exact sumF_zero a
  | succ b ih =>
    rw [sumF_succ, ← ih, ← sumF_add]
    exact sumF_congr a (fun i _ => rfl)
/-- a sum over k rounds of p -/
theorem sumF_rounds (f : Nat → Int) (p : Nat) : ∀ k, sumF f (p * k) = sumF (fun j => sumF (fun r => f (p * j + r)) p) k := by
  intro k
  induction k with
  | zero => rw [Nat.mul_zero]; rfl
  | succ k ih => rw [Nat.mul_succ, sumF_split, ih, sumF_succ]
/-- 1 in the night: before nb of the day, and from nt on -/
def isN (nb nt t : Nat) : Int := if t % 24 < nb ∨ nt ≤ t % 24 then 1 else 0
theorem sumF_list (f : Nat → Int) : ∀ m, sumF f m = ((List.range m).map f).sum := by
  intro m
  induction m with
  | zero => rfl
  | succ m ih => rw [sumF_succ, ih, List.range_succ, List.map_append, List.sum_append]; simp
theorem perm_sum {A B : List Nat} (h : A.Perm B) (g : Nat → Int) : (A.map g).sum = (B.map g).sum := by
  induction h with
  | nil => rfl
  | cons x _ ih => simp only [List.map_cons, List.sum_cons, ih]
  | swap x y l => simp only [List.map_cons, List.sum_cons]; omega
  | trans _ _ a b => exact a.trans b
theorem steps_perm : ∀ a : Fin 24, Nat.gcd a.val 24 = 1 → ∀ b : Fin 24, ((List.range 24).map (fun j => (a.val * j + b.val) % 24)).isPerm (List.range 24) = true := by decide +kernel
/-- a sum over a day in steps that have no common divisor with 24 -/
theorem sumF_steps (g : Nat → Int) (a b : Nat) (h : Nat.gcd a 24 = 1) : sumF (fun j => g ((a * j + b) % 24)) 24 = sumF g 24 := by
  have ga : Nat.gcd (a % 24) 24 = 1 := by rw [← Nat.gcd_rec 24 a, Nat.gcd_comm]; exact h
  have hp := List.isPerm_iff.1 (steps_perm ⟨a % 24, Nat.mod_lt _ (by omega)⟩ ga ⟨b % 24, Nat.mod_lt _ (by omega)⟩)
  have e : sumF (fun j => g ((a * j + b) % 24)) 24 = sumF (fun j => g ((a % 24 * j + b % 24) % 24)) 24 := sumF_congr 24 (fun j _ => by
    show g ((a * j + b) % 24) = g ((a % 24 * j + b % 24) % 24)
    congr 1
    simp [Nat.add_mod, Nat.mul_mod])
  rw [e, sumF_list, sumF_list g]
  have := perm_sum hp g
  rw [List.map_map] at this
  exact this
/-- P41: over 24 periods each hour of the period meets each hour of the day once -/
theorem nights_fair (f : Nat → Int) (g : Nat → Int) {p : Nat} (h : Nat.gcd p 24 = 1) : sumF (fun t => f (t % p) * g (t % 24)) (p * 24) = sumF f p * sumF g 24 := by
  rw [sumF_rounds, sumF_swap]
  have e : sumF (fun r => sumF (fun j => f ((p * j + r) % p) * g ((p * j + r) % 24)) 24) p = sumF (fun r => sumF g 24 * f r) p := sumF_congr p (fun r hr => by
    show sumF (fun j => f ((p * j + r) % p) * g ((p * j + r) % 24)) 24 = sumF g 24 * f r
    rw [← sumF_steps g p r h, Int.mul_comm, ← sumF_mul]
    exact sumF_congr 24 (fun j _ => by
      show f ((p * j + r) % p) * g ((p * j + r) % 24) = f r * g ((p * j + r) % 24)
      rw [Nat.mul_add_mod, Nat.mod_eq_of_lt hr]))
  rw [e, sumF_mul, Int.mul_comm]
end Go.Proofs.Ytclpbbhhaclgbaa
namespace Go.Proofs.Ytclpbbhhaclgbaa
open Go.RowKit
theorem wf_small {n : Int} (h : -1000000 ≤ n ∧ n ≤ 1000000) : (Lit.int .i64 n).wf = true := by
  have e1 : IntKind.i64.min = -9223372036854775808 := by decide +kernel
  have e2 : IntKind.i64.max = 9223372036854775807 := by decide +kernel
  show (decide (IntKind.i64.min ≤ n) && decide (n ≤ IntKind.i64.max)) = true
  rw [e1, e2, decide_eq_true (by omega : (-9223372036854775808 : Int) ≤ n), decide_eq_true (by omega : n ≤ 9223372036854775807)]; rfl
theorem start_yes {ts : List Tn} {i : Int} (h : ¬ startV ts i = -1) : ∃ k : Nat, i = (k : Int) ∧ k < ts.length ∧ vtB ts = true ∧ startV ts (k : Int) = sumT (ts.take k) := by
  have e : (vtB ts && (decide (0 ≤ i) && decide (i < (ts.length : Int)))) = true := by
    cases c : (vtB ts && (decide (0 ≤ i) && decide (i < (ts.length : Int)))) with
    | true => rfl
    | false => exact absurd (by unfold startV; rw [c]; rfl) h
  have e2 := e
  simp only [Bool.and_eq_true, decide_eq_true_eq] at e2
  obtain ⟨k, rfl⟩ : ∃ k : Nat, i = (k : Int) := ⟨i.toNat, by omega⟩
  refine ⟨k, rfl, by omega, e2.1, ?_⟩
  unfold startV; rw [e, Int.toNat_natCast]; rfl
theorem start_at {ts : List Tn} (h : vtB ts = true) (k : Nat) : startV ts (k : Int) = if k < ts.length then sumT (ts.take k) else -1 := by
  unfold startV
  rw [h, decide_eq_true (by omega : (0 : Int) ≤ (k : Int))]
  by_cases c : k < ts.length
  · rw [if_pos c, decide_eq_true (by omega : (k : Int) < (ts.length : Int)), Int.toNat_natCast]; rfl
  · rw [if_neg c, decide_eq_false (by omega : ¬ (k : Int) < (ts.length : Int))]; rfl
/-- counts -/
theorem cnt_split (p : Int → Bool) (a : Int) (m : Nat) : ∀ n, cntF p a (m + n) = cntF p a m + cntF p (a + (m : Int)) n := by
  intro n
  induction n with
  | zero => show cntF p a m = cntF p a m + 0; omega
  | succ n ih =>
    rw [← Nat.add_assoc, cnt_succ, cnt_succ, ih, show a + ((m + n : Nat) : Int) = a + (m : Int) + (n : Int) from by omega]; omega
theorem cnt_congr {p q : Int → Bool} {a : Int} {b : Int} : ∀ m : Nat, (∀ k : Nat, k < m → p (a + (k : Int)) = q (b + (k : Int))) → cntF p a m = cntF q b m := by
  intro m
  induction m with
  | zero => intro _; rfl
  | succ m ih => intro h; rw [cnt_succ, cnt_succ, ih (fun k hk => h k (by omega)), h m (by omega)]
theorem cnt_all {p : Int → Bool} {a : Int} : ∀ m : Nat, (∀ k : Nat, k < m → p (a + (k : Int)) = true) → cntF p a m = (m : Int) := by
  intro m
  induction m with
  | zero => intro _; rfl
  | succ m ih => intro h; rw [cnt_succ, ih (fun k hk => h k (by omega)), h m (by omega), if_pos rfl]; omega
theorem cnt_none {p : Int → Bool} {a : Int} : ∀ m : Nat, (∀ k : Nat, k < m → p (a + (k : Int)) = false) → cntF p a m = 0 := by
  intro m
  induction m with
  | zero => intro _; rfl
  | succ m ih => intro h; rw [cnt_succ, ih (fun k hk => h k (by omega)), h m (by omega)]; rfl
theorem cnt_le {p q : Int → Bool} {a : Int} (h : ∀ t, p t = true → q t = true) : ∀ m : Nat, cntF p a m ≤ cntF q a m := by
  intro m
  induction m with
  | zero => exact Int.le_refl _
  | succ m ih =>
    rw [cnt_succ, cnt_succ]
    by_cases c : p (a + (m : Int)) = true
    · rw [if_pos c, if_pos (h _ c)]; omega
    · rw [if_neg c]; split <;> omega
/-- over a period it does not matter where it begins -/
theorem cnt_slide {p : Int → Bool} {P : Nat} (h : ∀ t, p (t + (P : Int)) = p t) (a : Int) : cntF p (a + 1) P = cntF p a P := by
  have e1 := cnt_split p a 1 P
  have e2 := cnt_split p a P 1
  rw [show 1 + P = P + 1 from by omega, e2] at e1
  have e3 : cntF p (a + (P : Int)) 1 = cntF p a 1 := by
    show 0 + (if p (a + (P : Int) + ((0 : Nat) : Int)) then 1 else 0) = 0 + (if p (a + ((0 : Nat) : Int)) then 1 else 0)
    rw [show a + (P : Int) + ((0 : Nat) : Int) = a + ((0 : Nat) : Int) + (P : Int) from by omega, h]
  rw [e3] at e1
  rw [show a + ((1 : Nat) : Int) = a + 1 from rfl] at e1
  omega
theorem cnt_period {p : Int → Bool} {P : Nat} (h : ∀ t, p (t + (P : Int)) = p t) : ∀ a : Nat, cntF p (a : Int) P = cntF p 0 P := by
  intro a
  induction a with
  | zero => rfl
  | succ a ih => rw [← ih, ← cnt_slide h (a : Int)]; rfl
/-- the hours of an owner's turns -/
def ownS : List Tn → Int → Int
  | [], _ => 0
  | h :: r, o => (if h.1 = o then h.2 else 0) + ownS r o
theorem ownS_snoc (a : List Tn) (x : Tn) (o : Int) : ownS (a ++ [x]) o = ownS a o + (if x.1 = o then x.2 else 0) := by
  induction a with
  | nil => show _ + (0 : Int) = 0 + _; omega
  | cons h r ih => show _ + ownS (r ++ [x]) o = _ + ownS r o + _; rw [ih]; omega
theorem ownS_succ {ts : List Tn} {k : Nat} (h : k < ts.length) (o : Int) : ownS (ts.take (k + 1)) o = ownS (ts.take k) o + (if (ts.getD k tn0).1 = o then (ts.getD k tn0).2 else 0) := by
  rw [take_snocD ts h tn0, ownS_snoc]
theorem whoT_cons (h : Tn) (r : List Tn) (t : Int) : whoT (h :: r) t = if t < h.2 then h.1 else whoT r (t - h.2) := by
  unfold whoT
  show ((h :: r).getD (if t < h.2 then 0 else idxT r (t - h.2) + 1) tn0).1 = _
  split <;> rfl
theorem own_first (o : Int) : ∀ ts : List Tn, (∀ x ∈ ts, 0 ≤ x.2) → cntF (fun n => whoT ts n == o) 0 (sumT ts).toNat = ownS ts o ∧ 0 ≤ sumT ts := by
  intro ts
  induction ts with
  | nil => intro _; exact ⟨rfl, Int.le_refl _⟩
  | cons h r ih =>
    intro hp
    have h0 := hp h (by simp)
    obtain ⟨i1, i2⟩ := ih (fun x hx => hp x (by simp [hx]))
    obtain ⟨m, hm⟩ : ∃ m : Nat, h.2 = (m : Int) := ⟨h.2.toNat, by omega⟩
    have es : (sumT (h :: r)).toNat = m + (sumT r).toNat := by show (h.2 + sumT r).toNat = _; omega
    refine ⟨?_, by show 0 ≤ h.2 + sumT r; omega⟩
    rw [es, cnt_split]
    have a : cntF (fun n => whoT (h :: r) n == o) 0 m = if h.1 = o then h.2 else 0 := by
      have hw : ∀ k : Nat, k < m → whoT (h :: r) (0 + (k : Int)) = h.1 := fun k hk => by rw [whoT_cons, if_pos (by omega)]
      by_cases c : h.1 = o
      · rw [if_pos c, cnt_all m (fun k hk => by show (whoT (h :: r) (0 + (k : Int)) == o) = true; rw [hw k hk, c]; simp)]; omega
      · rw [if_neg c, cnt_none m (fun k hk => by show (whoT (h :: r) (0 + (k : Int)) == o) = false; rw [hw k hk]; simpa using c)]
    have b : cntF (fun n => whoT (h :: r) n == o) (0 + (m : Int)) (sumT r).toNat = cntF (fun n => whoT r n == o) 0 (sumT r).toNat := cnt_congr _ (fun k _ => by
      show (whoT (h :: r) (0 + (m : Int) + (k : Int)) == o) = (whoT r (0 + (k : Int)) == o)
      rw [whoT_cons, if_neg (by omega), show 0 + (m : Int) + (k : Int) - h.2 = 0 + (k : Int) from by omega])
    rw [a, b, i1]; rfl
theorem vt_mem {ts : List Tn} (h : vtB ts = true) : ∀ x ∈ ts, 1 ≤ x.1 ∧ x.1 ≤ 999 ∧ 1 ≤ x.2 ∧ x.2 ≤ 336 := fun x hx => by
  obtain ⟨i, hi, rfl⟩ := List.getElem_of_mem hx
  have := (okT_iff ts i).1 ((vt_is h).2.2.1 i hi)
  rwa [getD_lt _ hi] at this
theorem whoM_add {ts : List Tn} (c : Int) (t : Int) : whoM ts (t + sumT ts * c) = whoM ts t := by
  unfold whoM; rw [Int.add_mul_emod_self_left]
theorem whoM_small {ts : List Tn} {t : Int} (h0 : 0 ≤ t) (h1 : t < sumT ts) : whoM ts t = whoT ts t := by
  unfold whoM; rw [Int.emod_eq_of_lt h0 h1]
/-- the hours of an owner over any period -/
theorem own_period {ts : List Tn} (h : vtB ts = true) (o : Int) (a : Nat) : cntF (fun n => whoM ts n == o) (a : Int) (sumT ts).toNat = ownS ts o := by
  obtain ⟨_, _, _, s0, _⟩ := vt_is h
  have hs : ((sumT ts).toNat : Int) = sumT ts := by omega
  rw [cnt_period (P := (sumT ts).toNat) (fun t => by
    show (whoM ts (t + ((sumT ts).toNat : Int)) == o) = (whoM ts t == o)
    have := whoM_add (ts := ts) 1 t
    rw [Int.mul_one] at this
    rw [hs, this])]
  rw [← (own_first o ts (fun x hx => by have := vt_mem h x hx; omega)).1]
  exact cnt_congr _ (fun k hk => by
    show (whoM ts (0 + (k : Int)) == o) = (whoT ts (0 + (k : Int)) == o)
    rw [whoM_small (by omega) (by omega)])
theorem isNi_day (t : Int) : isNi (t + ((24 : Nat) : Int)) = isNi t := by
  unfold isNi
  rw [show t + ((24 : Nat) : Int) = t + 24 * 1 from by omega, Int.add_mul_emod_self_left]
theorem isNi_days (t c : Int) : isNi (t + c * 24) = isNi t := by
  unfold isNi
  rw [Int.add_mul_emod_self_right]
theorem night_day (a : Nat) : cntF isNi (a : Int) 24 = 10 := by
  rw [cnt_period (P := 24) isNi_day]; decide
theorem night_two (a : Nat) : cntF isNi (a : Int) 48 = 20 := by
  have this : cntF isNi (a : Int) 48 = cntF isNi (a : Int) 24 + cntF isNi ((a : Int) + ((24 : Nat) : Int)) 24 := cnt_split isNi (a : Int) 24 24
  have b := night_day (a + 24)
  rw [night_day] at this
  rw [show ((a + 24 : Nat) : Int) = (a : Int) + ((24 : Nat) : Int) from by omega] at b
  omega
/-- the first time that is such -/
theorem nxt_is {p : Int → Bool} : ∀ (m : Nat) (t : Int), 0 ≤ t → ¬ nxtF p m t = -1 → t ≤ nxtF p m t ∧ nxtF p m t < t + (m : Int) ∧ p (nxtF p m t) = true ∧ ∀ n, t ≤ n → n < nxtF p m t → p n = false := by
  intro m
  induction m with
  | zero => intro t _ h; exact absurd rfl h
  | succ m ih =>
    intro t h0 h
    rw [nxt_succ] at h ⊢
    by_cases c : p t = true
    · rw [if_pos c] at h ⊢
      exact ⟨Int.le_refl _, by omega, c, fun n a b => by omega⟩
    · rw [if_neg c] at h ⊢
      obtain ⟨a, b, d, e⟩ := ih (t + 1) (by omega) h
      refine ⟨by omega, by omega, d, fun n n1 n2 => ?_⟩
      by_cases en : n = t
      · rw [en]; simpa using c
      · exact e n (by omega) n2
theorem next_yes {ts : List Tn} {o t : Int} (h : ¬ nextV ts o t = -1) : vtB ts = true ∧ 0 ≤ t ∧ t ≤ nextV ts o t ∧ nextV ts o t ≤ 5000 ∧ nextV ts o t < t + sumT ts ∧ whoM ts (nextV ts o t) = o ∧ ∀ n, t ≤ n → n < nextV ts o t → whoM ts n ≠ o := by
  have e : (vtB ts && (decide (0 ≤ t) && decide (t ≤ 5000))) = true := by
    cases c : (vtB ts && (decide (0 ≤ t) && decide (t ≤ 5000))) with
    | true => rfl
    | false => exact absurd (by unfold nextV; rw [c]; rfl) h
  have e2 := e
  simp only [Bool.and_eq_true, decide_eq_true_eq] at e2
  obtain ⟨_, _, _, s0, _⟩ := vt_is e2.1
  have hv : nextV ts o t = nxtF (fun n => whoM ts n == o) (fuelT ts t) t := by unfold nextV; rw [e]; rfl
  rw [hv] at h ⊢
  obtain ⟨a, b, c, d⟩ := nxt_is _ _ e2.2.1 h
  have hf : ((fuelT ts t : Nat) : Int) ≤ sumT ts ∧ ((fuelT ts t : Nat) : Int) ≤ 5001 - t := by unfold fuelT; omega
  exact ⟨e2.1, e2.2.1, a, by omega, by omega, by simpa using c, fun n n1 n2 => by simpa using d n n1 n2⟩
theorem who_val {ts : List Tn} (h : vtB ts = true) {t : Int} (h0 : 0 ≤ t) (h1 : t ≤ 5000) : whoV ts t = whoM ts t := by
  unfold whoV; rw [h, decide_eq_true h0, decide_eq_true h1]; rfl
theorem hours_val {ts : List Tn} (h : vtB ts = true) {o a b : Int} (h0 : 0 ≤ a) (h1 : a ≤ b) (h2 : b ≤ 5000) : hoursV ts o a b = cntF (fun n => whoM ts n == o) a (b - a).toNat := by
  unfold hoursV timesB; rw [h, decide_eq_true h0, decide_eq_true h1, decide_eq_true h2]; rfl
theorem nights_val {ts : List Tn} (h : vtB ts = true) {o a b : Int} (h0 : 0 ≤ a) (h1 : a ≤ b) (h2 : b ≤ 5000) : nightsV ts o a b = cntF (fun n => (whoM ts n == o) && isNi n) a (b - a).toNat := by
  unfold nightsV timesB; rw [h, decide_eq_true h0, decide_eq_true h1, decide_eq_true h2]; rfl
theorem per_val {ts : List Tn} (h : vtB ts = true) : perV ts = sumT ts := by unfold perV; rw [h]; rfl
theorem hours_yes {ts : List Tn} {o a b : Int} (h : ¬ hoursV ts o a b = -1) : vtB ts = true ∧ 0 ≤ a ∧ a ≤ b ∧ b ≤ 5000 := by
  have e : (vtB ts && timesB a b) = true := by
    cases c : (vtB ts && timesB a b) with
    | true => rfl
    | false => exact absurd (by unfold hoursV; rw [c]; rfl) h
  unfold timesB at e
  simp only [Bool.and_eq_true, decide_eq_true_eq] at e
  exact ⟨e.1, e.2.1.1, e.2.1.2, e.2.2⟩
theorem nights_yes {ts : List Tn} {o a b : Int} (h : ¬ nightsV ts o a b = -1) : vtB ts = true ∧ 0 ≤ a ∧ a ≤ b ∧ b ≤ 5000 := by
  have e : (vtB ts && timesB a b) = true := by
    cases c : (vtB ts && timesB a b) with
    | true => rfl
    | false => exact absurd (by unfold nightsV; rw [c]; rfl) h
  unfold timesB at e
  simp only [Bool.and_eq_true, decide_eq_true_eq] at e
  exact ⟨e.1, e.2.1.1, e.2.1.2, e.2.2⟩
theorem hours_two {ts : List Tn} (h : vtB ts = true) {o a m b : Int} (h0 : 0 ≤ a) (h1 : a ≤ m) (h2 : m ≤ b) (h3 : b ≤ 5000) : hoursV ts o a m + hoursV ts o m b = hoursV ts o a b := by
  rw [hours_val h h0 h1 (by omega), hours_val h (by omega) h2 h3, hours_val h h0 (by omega) h3, show (b - a).toNat = (m - a).toNat + (b - m).toNat from by omega, cnt_split]
  rw [show a + ((m - a).toNat : Int) = m from by omega]
theorem hours_per {ts : List Tn} (h : vtB ts = true) {o a : Int} (h0 : 0 ≤ a) (h3 : a + sumT ts ≤ 5000) : hoursV ts o a (a + sumT ts) = ownS ts o := by
  obtain ⟨_, _, _, s0, _⟩ := vt_is h
  rw [hours_val h h0 (by omega) h3, show (a + sumT ts - a).toNat = (sumT ts).toNat from by omega]
  obtain ⟨n, rfl⟩ := Int.eq_ofNat_of_zero_le h0
  exact own_period h o n
theorem nights_le {ts : List Tn} {o a b : Int} (h : ¬ nightsV ts o a b = -1) : nightsV ts o a b ≤ hoursV ts o a b := by
  obtain ⟨hv, h0, h1, h2⟩ := nights_yes h
  rw [nights_val hv h0 h1 h2, hours_val hv h0 h1 h2]
  exact cnt_le (fun t ht => by simp only [Bool.and_eq_true] at ht; exact ht.1) _
theorem who_alone (t : Int) : whoM [(5, 7)] t = 5 := by
  unfold whoM whoT
  have r1 := Int.emod_lt_of_pos t (show (0 : Int) < 7 by omega)
  have e : sumT [((5 : Int), (7 : Int))] = 7 := rfl
  rw [e]
  show (([((5 : Int), (7 : Int))] : List Tn).getD (if t % 7 < 7 then 0 else _) tn0).1 = 5
  rw [if_pos r1]; rfl
theorem nights_alone {a b : Int} (h0 : 0 ≤ a) (h1 : b - a = 48) (h2 : b ≤ 5000) : nightsV [(5, 7)] 5 a b = 20 := by
  have hv : vtB [((5 : Int), (7 : Int))] = true := by decide
  rw [nights_val hv h0 (by omega) h2, h1]
  obtain ⟨n, rfl⟩ := Int.eq_ofNat_of_zero_le h0
  rw [← night_two n]
  exact cnt_congr _ (fun k _ => by
    show ((whoM [(5, 7)] _ == 5) && isNi _) = isNi _
    rw [who_alone]; rfl)
/-- the even time -/
theorem even_is {ts : List Tn} (h : ¬ evenV ts = -1) : vtB ts = true ∧ ∃ c d : Int, evenV ts = sumT ts * c ∧ evenV ts = d * 24 ∧ 1 ≤ evenV ts ∧ evenV ts ≤ 8064 := by
  have hv : vtB ts = true := by
    cases c : vtB ts with
    | true => rfl
    | false => exact absurd (by unfold evenV; rw [c]; rfl) h
  obtain ⟨_, _, _, s0, s1⟩ := vt_is hv
  refine ⟨hv, ?_⟩
  have e : evenV ts = sumT ts / (Int.gcd (sumT ts) 24 : Int) * 24 := by unfold evenV; rw [hv]; rfl
  obtain ⟨g, hg⟩ : ∃ g : Int, (Int.gcd (sumT ts) 24 : Int) = g := ⟨_, rfl⟩
  have d1 : g ∣ sumT ts := hg ▸ Int.gcd_dvd_left ..
  have d2 : g ∣ 24 := hg ▸ Int.gcd_dvd_right ..
  have g1 : 1 ≤ g := by have := Int.gcd_pos_of_ne_zero_left (a := sumT ts) 24 (by omega); omega
  obtain ⟨c, hc⟩ := d2
  obtain ⟨q, hq⟩ := d1
  have hdiv : sumT ts / g = q := by rw [hq, Int.mul_ediv_cancel_left _ (by omega)]
  rw [hg, hdiv] at e
  refine ⟨c, q, ?_, e, ?_, ?_⟩
  · rw [e, hc, hq, Int.mul_comm g q, Int.mul_assoc]
  · rw [e]
    have : 1 ≤ q := by
      rcases Int.lt_or_le q 1 with hl | hl
      · have : g * q ≤ 0 := Int.mul_nonpos_of_nonneg_of_nonpos (by omega) (by omega)
        omega
      · exact hl
    omega
  · rw [e]
    have : q ≤ sumT ts := by rw [← hdiv]; exact Int.ediv_le_self _ (by omega)
    omega
theorem even_again {ts : List Tn} (h : ¬ evenV ts = -1) (o : Int) (hle : evenV ts + 60 ≤ 5000) : hoursV ts o (evenV ts) (evenV ts + 60) = hoursV ts o 0 60 ∧ nightsV ts o (evenV ts) (evenV ts + 60) = nightsV ts o 0 60 := by
  obtain ⟨hv, c, d, e1, e2, l1, l2⟩ := even_is h
  have w : ∀ k : Nat, whoM ts (evenV ts + (k : Int)) = whoM ts (0 + (k : Int)) := fun k => by
    rw [show evenV ts + (k : Int) = 0 + (k : Int) + sumT ts * c from by omega, whoM_add]
  have n : ∀ k : Nat, isNi (evenV ts + (k : Int)) = isNi (0 + (k : Int)) := fun k => by
    rw [show evenV ts + (k : Int) = 0 + (k : Int) + d * 24 from by omega, isNi_days]
  constructor
  · rw [hours_val hv (by omega) (by omega) hle, hours_val hv (by omega) (by omega) (by omega), show (evenV ts + 60 - evenV ts).toNat = (60 - 0 : Int).toNat from by omega]
    exact cnt_congr _ (fun k _ => by show (whoM ts _ == o) = (whoM ts _ == o); rw [w k])
  · rw [nights_val hv (by omega) (by omega) hle, nights_val hv (by omega) (by omega) (by omega), show (evenV ts + 60 - evenV ts).toNat = (60 - 0 : Int).toNat from by omega]
    exact cnt_congr _ (fun k _ => by show ((whoM ts _ == o) && isNi _) = ((whoM ts _ == o) && isNi _); rw [w k, n k])
theorem cnt_sumF (p : Int → Bool) : ∀ m : Nat, cntF p 0 m = sumF (fun k => if p (k : Int) then 1 else 0) m := by
  intro m
  induction m with
  | zero => rfl
  | succ m ih => rw [cnt_succ, sumF_succ, ih, show (0 : Int) + (m : Int) = (m : Int) from by omega]
/-- over the even time nights are shared as hours are -/
theorem even_fair {ts : List Tn} (h : ¬ evenV ts = -1) (he : evenV ts = 24 * sumT ts) (hle : evenV ts ≤ 5000) (o : Int) : nightsV ts o 0 (evenV ts) = 10 * hoursV ts o 0 (sumT ts) := by
  obtain ⟨hv, _⟩ := even_is h
  obtain ⟨_, _, _, s0, s1⟩ := vt_is hv
  obtain ⟨P, hP⟩ : ∃ P : Nat, sumT ts = (P : Int) := ⟨(sumT ts).toNat, by omega⟩
  have hg : Nat.gcd P 24 = 1 := by
    have e : evenV ts = sumT ts / (Int.gcd (sumT ts) 24 : Int) * 24 := by unfold evenV; rw [hv]; rfl
    rw [he, hP] at e
    have hgi : Int.gcd (P : Int) 24 = Nat.gcd P 24 := rfl
    rw [hgi] at e
    obtain ⟨q, hq⟩ := Nat.gcd_dvd_left P 24
    have g1 : 0 < Nat.gcd P 24 := Nat.gcd_pos_of_pos_right _ (by omega)
    have hd : (P : Int) / (Nat.gcd P 24 : Int) = (q : Int) := by
      have : ((P / Nat.gcd P 24 : Nat) : Int) = (q : Int) := by
        congr 1
        exact Nat.div_eq_of_eq_mul_right g1 hq
      rw [← this]; rfl
    rw [hd] at e
    have hqP : q = P := by omega
    rw [hqP] at hq
    have : Nat.gcd P 24 * P = 1 * P := by omega
    exact Nat.eq_of_mul_eq_mul_right (by omega) this
  rw [nights_val hv (by omega) (by omega) hle, hours_val hv (by omega) (by omega) (by omega)]
  rw [show (evenV ts - 0).toNat = P * 24 from by omega, show (sumT ts - 0).toNat = P from by omega, cnt_sumF, cnt_sumF]
  have f := nights_fair (fun r => if whoT ts (r : Int) == o then 1 else 0) (fun r => if isNi (r : Int) then 1 else 0) hg
  have a : sumF (fun k => if ((whoM ts (k : Int) == o) && isNi (k : Int)) = true then (1 : Int) else 0) (P * 24) = sumF (fun t => (if whoT ts ((t % P : Nat) : Int) == o then (1 : Int) else 0) * (if isNi ((t % 24 : Nat) : Int) then 1 else 0)) (P * 24) := sumF_congr _ (fun k _ => by
    have e1 : whoM ts (k : Int) = whoT ts ((k % P : Nat) : Int) := by unfold whoM; rw [hP]; rfl
    have e2 : isNi ((k % 24 : Nat) : Int) = isNi (k : Int) := by
      have := isNi_days ((k % 24 : Nat) : Int) ((k / 24 : Nat) : Int)
      rw [← this]
      congr 1
      omega
    show (if ((whoM ts (k : Int) == o) && isNi (k : Int)) = true then (1 : Int) else 0) = _
    rw [e1, e2]
    cases whoT ts ((k % P : Nat) : Int) == o <;> cases isNi (k : Int) <;> rfl)
  have b : sumF (fun k => if (whoM ts (k : Int) == o) = true then (1 : Int) else 0) P = sumF (fun r => if whoT ts (r : Int) == o then (1 : Int) else 0) P := sumF_congr _ (fun k hk => by
    show (if (whoM ts (k : Int) == o) = true then (1 : Int) else 0) = _
    rw [whoM_small (by omega) (by omega)])
  have c : sumF (fun r => if isNi (r : Int) then (1 : Int) else 0) 24 = 10 := by decide
  rw [a, b]
  rw [c] at f
  rw [f]; omega
end Go.Proofs.Ytclpbbhhaclgbaa
namespace Go.Proofs.Ytclpbbhhaclgbaa
set_option linter.unusedVariables false
theorem ow_get {hs : List Hd} (hv : vlR hs = true) {k : Nat} (hk : k < hs.length) : 1 ≤ (hs.getD k hd0).1 ∧ (hs.getD k hd0).1 ≤ 999 := by
  have ha : ascB hs = true := by unfold vlR at hv; simp only [Bool.and_eq_true, decide_eq_true_eq] at hv; exact hv.1.1.2
  have := (asc_is ha).2 ((ledOf hs).getD k (0, 0)) (by rw [List.getD_eq_getElem?_getD, List.getElem?_eq_getElem (by rw [led_len]; exact hk)]; simp)
  rw [led_get hs hk] at this; exact this
theorem ow_lt {hs : List Hd} (hv : vlR hs = true) {i j : Nat} (hij : i < j) (hj : j < hs.length) : (hs.getD i hd0).1 < (hs.getD j hd0).1 := by
  have ha : ascB hs = true := by unfold vlR at hv; simp only [Bool.and_eq_true, decide_eq_true_eq] at hv; exact hv.1.1.2
  have h := (asc_is ha).1
  unfold Asc at h
  rw [List.pairwise_iff_getElem] at h
  have := h i j (by rw [led_len]; omega) (by rw [led_len]; exact hj) hij
  have e : ∀ k (hk : k < hs.length), (ledOf hs)[k]'(by rw [led_len]; exact hk) = (ledOf hs).getD k (0, 0) := fun k hk => by
    rw [List.getD_eq_getElem?_getD, List.getElem?_eq_getElem (by rw [led_len]; exact hk)]; rfl
  rw [e i (by omega), e j hj, led_get hs (by omega), led_get hs hj] at this; exact this
theorem ow_ne {hs : List Hd} (hv : vlR hs = true) {i j : Nat} (hi : i < hs.length) (hj : j < hs.length) (hne : i ≠ j) : (hs.getD i hd0).1 ≠ (hs.getD j hd0).1 := by
  rcases Nat.lt_or_gt_of_ne hne with h | h
  · have := ow_lt hv h hj; omega
  · have := ow_lt hv h hi; omega
/-- an owner's hours, of the first turns -/
theorem tf_own {hs : List Hd} (hv : vlR hs = true) {gs : List Int} (hg : ∀ k, k < hs.length → 0 ≤ gs.getD k 0) {k : Nat} (hk : k < hs.length) : ∀ K, K ≤ hs.length → ownS (tfTo hs gs K) (hs.getD k hd0).1 = if k < K then gs.getD k 0 else 0 := by
  intro K
  induction K with
  | zero => intro _; rfl
  | succ K ih =>
    intro hK
    have h := ih (by omega)
    have g0 := hg K (by omega)
    by_cases c : 0 < gs.getD K 0
    · rw [tfTo_yes c, ownS_snoc, h]
      show _ + (if (hs.getD K hd0).1 = (hs.getD k hd0).1 then gs.getD K 0 else 0) = _
      by_cases e : k = K
      · subst e; rw [if_neg (by omega), if_pos rfl, if_pos (by omega)]; omega
      · rw [if_neg (ow_ne hv (by omega) hk (fun q => e q.symm))]
        by_cases d : k < K
        · rw [if_pos d, if_pos (by omega)]; omega
        · rw [if_neg d, if_neg (by omega)]; rfl
    · rw [tfTo_no c, h]
      by_cases e : k = K
      · subst e; rw [if_neg (by omega), if_pos (by omega)]; omega
      · by_cases d : k < K
        · rw [if_pos d, if_pos (by omega)]
        · rw [if_neg d, if_neg (by omega)]
theorem tf_sum {hs : List Hd} {gs : List Int} (hl : gs.length = hs.length) (hg : ∀ k, k < hs.length → 0 ≤ gs.getD k 0) : ∀ K, K ≤ hs.length → sumT (tfTo hs gs K) = (gs.take K).sum := by
  intro K
  induction K with
  | zero => intro _; rfl
  | succ K ih =>
    intro hK
    have h := ih (by omega)
    have g0 := hg K (by omega)
    rw [take_sum gs K (by omega), ← h]
    by_cases c : 0 < gs.getD K 0
    · rw [tfTo_yes c]
      have : ∀ (a : List Tn) (x : Tn), sumT (a ++ [x]) = sumT a + x.2 := by
        intro a x
        induction a with
        | nil => show x.2 + 0 = 0 + x.2; omega
        | cons h r ih => show h.2 + sumT (r ++ [x]) = h.2 + sumT r + x.2; rw [ih]; omega
      exact this _ _
    · rw [tfTo_no c]; omega
theorem tf_mem {hs : List Hd} {gs : List Int} : ∀ K x, x ∈ tfTo hs gs K → ∃ k, k < K ∧ 0 < gs.getD k 0 ∧ x = ((hs.getD k hd0).1, gs.getD k 0) := by
  intro K
  induction K with
  | zero => intro x h; cases h
  | succ K ih =>
    intro x h
    by_cases c : 0 < gs.getD K 0
    · rw [tfTo_yes c] at h
      rcases List.mem_append.1 h with h | h
      · obtain ⟨k, a, b, d⟩ := ih x h; exact ⟨k, by omega, b, d⟩
      · exact ⟨K, by omega, c, by simpa using h⟩
    · rw [tfTo_no c] at h
      obtain ⟨k, a, b, d⟩ := ih x h; exact ⟨k, by omega, b, d⟩
theorem tf_is {hs : List Hd} {n : Int} (h : tfB hs n = true) : cdR hs ≠ -1 ∧ 1 ≤ n ∧ n ≤ 336 ∧ vwB (unR hs) = true := by
  unfold tfB at h
  simp only [Bool.and_eq_true, decide_eq_true_eq] at h
  exact ⟨h.1.1, h.1.2.1, h.1.2.2, h.2⟩
theorem sr_le {n : Int} {ws : List Int} (hcs : csB n ws = true) {i : Nat} (hi : i < ws.length) : (sr n ws).getD i 0 ≤ n := by
  have h1 := sr_sum hcs
  have hl := sr_len n ws
  have hp : ∀ z ∈ sr n ws, 0 ≤ z := fun z hz => by
    obtain ⟨j, hj, rfl⟩ := List.getElem_of_mem hz
    have := (sr_bd hcs (i := j) (by omega)).1
    rwa [List.getD_eq_getElem?_getD, List.getElem?_eq_getElem hj] at this
  have : ∀ (l : List Int) (i : Nat), (∀ z ∈ l, 0 ≤ z) → i < l.length → l.getD i 0 ≤ l.sum ∧ 0 ≤ l.sum := by
    intro l
    induction l with
    | nil => intro i _ h; simp at h
    | cons x t ih =>
      intro i hz hi
      have x0 := hz x (by simp)
      have t0 : 0 ≤ t.sum := by
        have : ∀ l : List Int, (∀ z ∈ l, 0 ≤ z) → 0 ≤ l.sum := by
          intro l
          induction l with
          | nil => intro _; exact Int.le_refl _
          | cons y s ih2 => intro hy; rw [List.sum_cons]; have := ih2 (fun z h => hy z (by simp [h])); have := hy y (by simp); omega
        exact this t (fun z h => hz z (by simp [h]))
      rw [List.sum_cons]
      cases i with
      | zero => exact ⟨by show x ≤ _; omega, by omega⟩
      | succ i =>
        have := (ih i (fun z h => hz z (by simp [h])) (by simpa using hi)).1
        exact ⟨by show t.getD i 0 ≤ _; omega, by omega⟩
  have := (this (sr n ws) i hp (by omega)).1
  omega
/-- P44 -/
theorem tf_law {hs : List Hd} {n : Int} (h : tfB hs n = true) : vlR hs = true ∧ hs.length ≤ 12 ∧ vtB (tfL hs n) = true ∧ sumT (tfL hs n) = n ∧ ∀ k, k < hs.length → Wsh.vfB (hs.getD k hd0).2.1 (hs.getD k hd0).2.2 = true ∧ n * (hs.getD k hd0).2.1 / (hs.getD k hd0).2.2 ≤ ownS (tfL hs n) (hs.getD k hd0).1 ∧ ownS (tfL hs n) (hs.getD k hd0).1 ≤ n * (hs.getD k hd0).2.1 / (hs.getD k hd0).2.2 + 1 := by
  obtain ⟨c1, n1, n2, vw⟩ := tf_is h
  obtain ⟨hv, hle, hcd⟩ := cd_pos c1
  have hcs := tf_cs n1 n2 vw
  have hlu := un_len hs
  have hls := sr_len n (unR hs)
  have hg : ∀ k, k < hs.length → 0 ≤ (sr n (unR hs)).getD k 0 := fun k hk => (sr_bd hcs (by omega)).1
  have h12 : hs.length ≤ 12 := by unfold vlR at hv; simp only [Bool.and_eq_true, decide_eq_true_eq] at hv; exact hv.1.1.1
  have hsum : sumT (tfL hs n) = n := by
    unfold tfL
    rw [tf_sum (by omega) hg hs.length (Nat.le_refl _), List.take_of_length_le (by omega)]
    exact sr_sum hcs
  have hvt : vtB (tfL hs n) = true := by
    have a := tf_some n1 hcs
    have b := tf_len hs n
    unfold vtB
    rw [decide_eq_true (by omega : 1 ≤ (tfL hs n).length), decide_eq_true (by omega : (tfL hs n).length ≤ 24), hsum, decide_eq_true n2]
    have : allT (tfL hs n) = true := by
      unfold allT
      rw [rng_all]
      intro j hj
      obtain ⟨k, k1, k2, k3⟩ := tf_mem hs.length ((tfL hs n).getD j tn0) (by rw [List.getD_eq_getElem?_getD, List.getElem?_eq_getElem hj]; exact List.getElem_mem hj)
      have o := ow_get hv k1
      have s := sr_le hcs (i := k) (by omega)
      unfold okT
      rw [k3]
      simp only [Bool.and_eq_true, decide_eq_true_eq]
      omega
    rw [this]; rfl
  refine ⟨hv, h12, hvt, hsum, fun k hk => ?_⟩
  have hown : ownS (tfL hs n) (hs.getD k hd0).1 = (sr n (unR hs)).getD k 0 := by
    unfold tfL; rw [tf_own hv hg hk hs.length (Nat.le_refl _), if_pos hk]
  have hq := sr_each hcs (i := k) (by omega)
  rw [qs_get n (unR hs) (by omega), (un_sum hv).1, un_get hs hk] at hq
  obtain ⟨r0, r1, r2⟩ := cd_rem hv hk
  have hp : (0 : Int) < (lcmTo (ledOf hs) hs.length : Int) := by have := lcm_pos (ledOf hs) hs.length; omega
  rw [Int.tmod_eq_emod_of_nonneg (by omega)] at r0
  have e1 : (lcmTo (ledOf hs) hs.length : Int) = (hs.getD k hd0).2.2 * ((lcmTo (ledOf hs) hs.length : Int) / (hs.getD k hd0).2.2) := by
    have := Int.mul_ediv_add_emod (lcmTo (ledOf hs) hs.length : Int) (hs.getD k hd0).2.2
    omega
  have hvf : Wsh.vfB (hs.getD k hd0).2.1 (hs.getD k hd0).2.2 = true := by
    have hs1 : allS hs = true := by unfold vlR at hv; simp only [Bool.and_eq_true, decide_eq_true_eq] at hv; exact hv.1.2
    unfold allS at hs1
    rw [rng_all] at hs1
    exact (okF_is (okS_is (hs1 k hk)).1).1
  generalize (lcmTo (ledOf hs) hs.length : Int) / (hs.getD k hd0).2.2 = c at *
  generalize (lcmTo (ledOf hs) hs.length : Int) = M at *
  have c0 : 0 < c := by
    rcases Int.lt_trichotomy c 0 with g | g | g
    · have := Int.mul_neg_of_pos_of_neg (by omega : 0 < (hs.getD k hd0).2.2) g; omega
    · rw [g, Int.mul_zero] at e1; omega
    · exact g
  have e2 : n * (c * (hs.getD k hd0).2.1) / M = n * (hs.getD k hd0).2.1 / (hs.getD k hd0).2.2 := by
    rw [e1, show n * (c * (hs.getD k hd0).2.1) = n * (hs.getD k hd0).2.1 * c from by rw [Int.mul_comm c, Int.mul_assoc]]
    exact Int.mul_ediv_mul_of_pos_left _ _ c0
  rw [e2] at hq
  rw [hown]
  exact ⟨hvf, hq.1, hq.2.1⟩
end Go.Proofs.Ytclpbbhhaclgbaa
namespace Go.Proofs.Ytclpbbhhaclgbaa
open Go.RowKit

set_option maxHeartbeats 2000000 in
theorem eqTn (a b : Option Addr) (ca cb : Nat) (xs : List Tn) (w : World) (ha : IsTn w a xs) (hb : IsTn w b xs) (hn : xs.length ≤ 1048576) :
    Calls Try.prog 35 #[.slice a xs.length ca, .slice b xs.length cb] w fun e w' => e = .returned (.bool true) ∧ Below w.heap.size w w' := by
  rcases ha with rfl | ⟨g, o, rfl, hc⟩
  · go_enter Try.func35, Try.ntmps35
    go_wp2
    go_rounds 1
    go_ret
    exact ⟨rfl, by go_grown⟩
  · rcases hb with rfl | ⟨g2, o2, rfl, hc2⟩
    · go_enter Try.func35, Try.ntmps35
      go_wp2
      go_rounds 1
      go_ret
      exact ⟨rfl, by go_grown⟩
    · have HC := Lib.hid hc
      have HD := Lib.hid hc2
      clear hc hc2
      go_enter Try.func35, Try.ntmps35
      go_wp2
      go_loopw [5] (fun i wr => ∃ k : Nat, k ≤ xs.length ∧ i = .int .i64 k ∧ Below w.heap.size w wr) (fun i _ => xs.length - (intOf i).toNat)
      case atStart => exact ⟨0, Nat.zero_le _, rfl, by go_grown⟩
      case round =>
        obtain ⟨k, hk, rfl, hB⟩ := hrel
        by_cases hlt : k < xs.length
        · obtain ⟨c0, c1⟩ := tn_at HC.out hB hlt
          obtain ⟨d0, d1⟩ := tn_at HD.out hB hlt
          generalize xs.getD k tn0 = hh at c0 c1 d0 d1
          obtain ⟨x0, x1⟩ := hh
          dsimp only at c0 c1 d0 d1
          have HB := Lib.hid hB
          clear hB
          have i0 : (0 : Int) ≤ (k : Int) := by omega
          have i1 : (k : Int) < (xs.length : Int) := by omega
          go_wp2_with fail
          go_quiet (fail)
          go_wp2_with fail
          go_roundw
          case rel => exact ⟨k + 1, by omega, by go_num, below_drewN HB.out _⟩
          case measure => simp [intOf]; omega
        · obtain rfl : k = xs.length := by omega
          go_wp2_with fail
          go_ret
          exact ⟨rfl, hB⟩
end Go.Proofs.Ytclpbbhhaclgbaa
namespace Go.Proofs.Ytclpbbhhaclgbaa
open Go.RowKit


set_option maxHeartbeats 400000 in
/-- impl.PartOf -/
theorem iPart (n x d : Int) (w : World) :
    Calls Try.prog 39 #[.int .i64 n, .agg #[.int .i64 x, .int .i64 d]] w fun e w' => e = .returned (.int .i64 (Wsh.partI n x d)) ∧ Below w.heap.size w w' := by
  by_cases h1 : n < 0
  · go_enter Try.func39, Try.ntmps39
    go_wp2_with fail
    go_ret
    exact ⟨ret_int (Wsh.partI_no1 x d (by omega)).symm, by go_grown⟩
  · by_cases h2 : 1000000 < n
    · go_enter Try.func39, Try.ntmps39
      go_wp2_with fail
      go_ret
      exact ⟨ret_int (Wsh.partI_no1 x d (by omega)).symm, by go_grown⟩
    · cases hv : Wsh.vfB x d with
      | false =>
        have HQ := Lib.hid (Wsh.partI_no2 n hv)
        go_enter Try.func39, Try.ntmps39
        go_wp2_with fail
        refine (iValid x d _).mono ?_
        rintro e w1 ⟨rfl, hb⟩
        have hB : Below w.heap.size w w1 := bel_tr (by go_grown) hb
        go_wp2_with fail
        go_ret
        exact ⟨ret_int HQ.out.symm, hB⟩
      | true =>
        have HQ := Lib.hid (Wsh.partI_yes (n := n) (by omega) hv)
        have kv := (Wsh.vfB_iff _ _).1 hv
        obtain ⟨k1, k2, k3, k4, k5⟩ := kv
        clear k5
        have m1 : 0 ≤ n * x := Int.mul_nonneg (by omega) (by omega)
        have m2 : n * x ≤ 10000000000 := Wsh.mul_bd2 (by omega) (by omega) (by omega) (by omega)
        go_enter Try.func39, Try.ntmps39
        go_wp2_with fail
        refine (iValid x d _).mono ?_
        rintro e w1 ⟨rfl, hb⟩
        have hB : Below w.heap.size w w1 := bel_tr (by go_grown) hb
        obtain ⟨hc, hf⟩ := bcell hb
        have c0 := hc (w.heap.size) 0 (by simp <;> omega)
        have c1 := hc (w.heap.size) 1 (by simp <;> omega)
        simp [go_sem] at c0 c1
        clear hc hf hb
        go_wp2_with fail
        go_ret
        exact ⟨ret_int HQ.out.symm, hB⟩

end Go.Proofs.Ytclpbbhhaclgbaa
