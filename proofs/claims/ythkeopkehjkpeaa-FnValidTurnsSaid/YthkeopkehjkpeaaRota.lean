/- Rotations: whose turn it is, hours and nights of an owner. No condition but those stated. -/
import Derived.Test.YthkeopkehjkpeaaGaps
namespace Go.Proofs.Ythkeopkehjkpeaa

/-- turns: an owner and hours -/
abbrev Rota := List (Int × Nat)
def perR : Rota → Nat
  | [] => 0
  | h :: t => h.2 + perR t
/-- whose turn it is at a time of the first period -/
def whoR : Rota → Nat → Int
  | [], _ => 0
  | h :: r, t => if t < h.2 then h.1 else whoR r (t - h.2)
theorem per_append (A B : Rota) : perR (A ++ B) = perR A + perR B := by
  induction A with
  | nil => show perR B = 0 + perR B; omega
  | cons h t ih => show h.2 + perR (t ++ B) = h.2 + perR t + perR B; rw [ih]; omega
theorem who_append : ∀ (A B : Rota) (t : Nat), whoR (A ++ B) t = if t < perR A then whoR A t else whoR B (t - perR A) := by
  intro A
  induction A with
  | nil => intro B t; show whoR B t = if t < 0 then _ else _; rw [if_neg (by omega)]; rfl
  | cons h r ih =>
    intro B t
    show (if t < h.2 then h.1 else whoR (r ++ B) (t - h.2)) = if t < h.2 + perR r then (if t < h.2 then h.1 else whoR r (t - h.2)) else whoR B (t - (h.2 + perR r))
    by_cases a : t < h.2
    · rw [if_pos a, if_pos (by omega), if_pos a]
    · rw [if_neg a, ih]
      by_cases b : t - h.2 < perR r
      · rw [if_pos b, if_pos (by omega), if_neg a]
      · rw [if_neg b, if_neg (by omega)]; congr 1; omega
/-- P35: where a turn starts it is its owner's -/
theorem who_start (A : Rota) (h : Int × Nat) (B : Rota) (hh : 0 < h.2) : whoR (A ++ h :: B) (perR A) = h.1 := by
  rw [who_append, if_neg (by omega), Nat.sub_self]
  show (if 0 < h.2 then h.1 else _) = _
  rw [if_pos hh]
/-- P36: turns follow each other -/
theorem start_next (A : Rota) (h : Int × Nat) : perR (A ++ [h]) = perR A + h.2 := by rw [per_append]; show perR A + (h.2 + 0) = _; omega
/-- 1 if it is the owner's turn -/
def isO (L : Rota) (o : Int) (t : Nat) : Int := if whoR L t = o then 1 else 0
def cntR (o : Int) : Rota → Nat
  | [] => 0
  | h :: t => (if h.1 = o then h.2 else 0) + cntR o t
theorem sumF_split (f : Nat → Int) (a : Nat) : ∀ b, sumF f (a + b) = sumF f a + sumF (fun k => f (a + k)) b := by
  intro b
  induction b with
  | zero => show sumF f a = sumF f a + 0; omega
  | succ b ih => rw [show a + (b + 1) = a + b + 1 by omega, sumF_succ, sumF_succ, ih]; omega
theorem sumF_const (v : Int) : ∀ m, sumF (fun _ => v) m = v * (m : Int) := by
  intro m
  induction m with
  | zero => rw [show sumF (fun _ => v) 0 = 0 from rfl]; simp
  | succ m ih => rw [sumF_succ, ih, show ((m + 1 : Nat) : Int) = (m : Int) + 1 by omega, Int.mul_add, Int.mul_one]
/-- P38: the hours of a period are the hours of the owner's turns -/
theorem hours_period (o : Int) : ∀ L : Rota, sumF (isO L o) (perR L) = (cntR o L : Int) := by
  intro L
  induction L with
  | nil => rfl
  | cons h r ih =>
    show sumF (isO (h :: r) o) (h.2 + perR r) = (((if h.1 = o then h.2 else 0) + cntR o r : Nat) : Int)
    rw [sumF_split]
    have a : sumF (isO (h :: r) o) h.2 = sumF (fun _ => if h.1 = o then 1 else 0) h.2 := sumF_congr h.2 (fun k hk => by
      show (if (if k < h.2 then h.1 else _) = o then (1 : Int) else 0) = _
      rw [if_pos hk])
    have b : sumF (fun k => isO (h :: r) o (h.2 + k)) (perR r) = sumF (isO r o) (perR r) := sumF_congr _ (fun k _ => by
      have e : whoR (h :: r) (h.2 + k) = whoR r k := by
        show (if h.2 + k < h.2 then h.1 else whoR r (h.2 + k - h.2)) = _
        rw [if_neg (by omega), Nat.add_sub_cancel_left]
      show (if whoR (h :: r) (h.2 + k) = o then (1 : Int) else 0) = _
      rw [e]; rfl)
    rw [a, b, ih, sumF_const]
    split
    · omega
    · omega
/-- a sum over whole periods does not hang on where it begins -/
theorem sumF_turn (f : Nat → Int) {p : Nat} (hp : 0 < p) : ∀ s, sumF (fun k => f ((s + k) % p)) p = sumF f p := by
  intro s
  induction s with
  | zero => exact sumF_congr p (fun k hk => by show f ((0 + k) % p) = f k; rw [Nat.zero_add, Nat.mod_eq_of_lt hk])
  | succ s ih =>
    rw [← ih]
    obtain ⟨q, rfl⟩ : ∃ q, p = q + 1 := ⟨p - 1, by omega⟩
    have a := sumF_split (fun k => f ((s + k) % (q + 1))) 1 q
    rw [show 1 + q = q + 1 by omega] at a
    rw [a, sumF_succ]
    have b : sumF (fun k => f ((s + 1 + k) % (q + 1))) q = sumF (fun k => f ((s + (1 + k)) % (q + 1))) q := sumF_congr q (fun k _ => by show f ((s + 1 + k) % (q + 1)) = f ((s + (1 + k)) % (q + 1)); rw [Nat.add_assoc])
    rw [b]
    show _ + f ((s + 1 + q) % (q + 1)) = (0 + f ((s + 0) % (q + 1))) + _
    rw [show s + 1 + q = s + (q + 1) by omega, Nat.add_mod_right]
    simp only [Nat.add_zero]
    omega
theorem sumF_mul (f : Nat → Int) (v : Int) : ∀ m, sumF (fun k => v * f k) m = v * sumF f m := by
  intro m
  induction m with
  | zero => show (0 : Int) = v * 0; simp
  | succ m ih => rw [sumF_succ, sumF_succ, ih, Int.mul_add]
theorem sumF_swap (F : Nat → Nat → Int) (a : Nat) : ∀ b, sumF (fun i => sumF (fun k => F i k) b) a = sumF (fun k => sumF (fun i => F i k) a) b := by
  intro b
  induction b with
  | zero => exact sumF_zero a
  | succ b ih =>
    rw [sumF_succ, ← ih, ← sumF_add]
    exact sumF_congr a (fun i _ => rfl)
/-- a sum over k rounds of p -/
theorem sumF_rounds (f : Nat → Int) (p : Nat) : ∀ k, sumF f (p * k) = sumF (fun j => sumF (fun r => f (p * j + r)) p) k := by
  intro k
  induction k with
  | zero => rw [Nat.mul_zero]; rfl
  | succ k ih => rw [Nat.mul_succ, sumF_split, ih, sumF_succ]
/-- 1 in the night: before nb of the day, and from nt on -/
def isN (nb nt t : Nat) : Int := if t % 24 < nb ∨ nt ≤ t % 24 then 1 else 0
theorem sumF_list (f : Nat → Int) : ∀ m, sumF f m = ((List.range m).map f).sum := by
  intro m
  induction m with
  | zero => rfl
  | succ m ih => rw [sumF_succ, ih, List.range_succ, List.map_append, List.sum_append]; simp
theorem perm_sum {A B : List Nat} (h : A.Perm B) (g : Nat → Int) : (A.map g).sum = (B.map g).sum := by
  induction h with
  | nil => rfl
  | cons x _ ih => simp only [List.map_cons, List.sum_cons, ih]
  | swap x y l => simp only [List.map_cons, List.sum_cons]; omega
  | trans _ _ a b => exact a.trans b
theorem steps_perm : ∀ a : Fin 24, Nat.gcd a.val 24 = 1 → ∀ b : Fin 24, ((List.range 24).map (fun j => (a.val * j + b.val) % 24)).isPerm (List.range 24) = true := by decide +kernel
/-- a sum over a day in steps that have no common divisor with 24 -/
theorem sumF_steps (g : Nat → Int) (a b : Nat) (h : Nat.gcd a 24 = 1) : sumF (fun j => g ((a * j + b) % 24)) 24 = sumF g 24 := by
  have ga : Nat.gcd (a % 24) 24 = 1 := by rw [← Nat.gcd_rec 24 a, Nat.gcd_comm]; exact h
  have hp := List.isPerm_iff.1 (steps_perm ⟨a % 24, Nat.mod_lt _ (by omega)⟩ ga ⟨b % 24, Nat.mod_lt _ (by omega)⟩)
  have e : sumF (fun j => g ((a * j + b) % 24)) 24 = sumF (fun j => g ((a % 24 * j + b % 24) % 24)) 24 := sumF_congr 24 (fun j _ => by
    show g ((a * j + b) % 24) = g ((a % 24 * j + b % 24) % 24)
    congr 1
    simp [Nat.add_mod, Nat.mul_mod])
  rw [e, sumF_list, sumF_list g]
  have := perm_sum hp g
  rw [List.map_map] at this
  exact this
/-- P41: over 24 periods each hour of the period meets each hour of the day once -/
theorem nights_fair (f : Nat → Int) (g : Nat → Int) {p : Nat} (h : Nat.gcd p 24 = 1) : sumF (fun t => f (t % p) * g (t % 24)) (p * 24) = sumF f p * sumF g 24 := by
  rw [sumF_rounds, sumF_swap]
  have e : sumF (fun r => sumF (fun j => f ((p * j + r) % p) * g ((p * j + r) % 24)) 24) p = sumF (fun r => sumF g 24 * f r) p := sumF_congr p (fun r hr => by
    show sumF (fun j => f ((p * j + r) % p) * g ((p * j + r) % 24)) 24 = sumF g 24 * f r
    rw [← sumF_steps g p r h, Int.mul_comm, ← sumF_mul]
    exact sumF_congr 24 (fun j _ => by
      show f ((p * j + r) % p) * g ((p * j + r) % 24) = f r * g ((p * j + r) % 24)
      rw [Nat.mul_add_mod, Nat.mod_eq_of_lt hr]))
  rw [e, sumF_mul, Int.mul_comm]
end Go.Proofs.Ythkeopkehjkpeaa
