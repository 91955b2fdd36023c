/- Exact divisions have no distance; a distance is the same backwards. Conditions: those stated. -/
import Derived.Test.YtlellobigckolaaMathQ
import Derived.Test.YtlellobigckolaaDrawD
namespace Go.Proofs.Ytlellobigckolaa

/-- whether the first k units are exact -/
def exTo (gs ws : List Int) : Nat → Bool
  | 0 => true
  | k + 1 => exTo gs ws k && (gs.getD k 0 * ws.sum == ws.getD k 0 * gs.sum)
theorem exTo_succ (gs ws : List Int) (k : Nat) : exTo gs ws (k + 1) = (exTo gs ws k && (gs.getD k 0 * ws.sum == ws.getD k 0 * gs.sum)) := rfl
theorem dterm_zero (gs ws : List Int) (k : Nat) : 0 ≤ dterm gs ws k ∧ (dterm gs ws k = 0 ↔ gs.getD k 0 * ws.sum = ws.getD k 0 * gs.sum) := by
  unfold dterm absd; split <;> omega
theorem dist_zero {gs ws : List Int} (d : Div gs ws) : ∀ k, k ≤ gs.length → (distTo gs ws k == 0) = exTo gs ws k := by
  intro k
  induction k with
  | zero => intro _; rfl
  | succ k ih =>
    intro hk
    have h1 := ih (by omega)
    have h2 := dterm_zero gs ws k
    have h3 := (dist_bd d k (by omega)).1
    rw [exTo_succ, ← h1]
    show (distTo gs ws k + dterm gs ws k == 0) = _
    rw [Bool.eq_iff_iff]
    simp only [beq_iff_eq, Bool.and_eq_true]
    omega
theorem rev_sum (l : List Int) : l.reverse.sum = l.sum := by
  induction l with
  | nil => rfl
  | cons x l ih => simp [List.sum_append, ih]; omega
def sumTo (f : Nat → Int) : Nat → Int
  | 0 => 0
  | k + 1 => sumTo f k + f k
theorem sumTo_congr {f g : Nat → Int} : ∀ m, (∀ k, k < m → f k = g k) → sumTo f m = sumTo g m := by
  intro m
  induction m with
  | zero => intro _; rfl
  | succ m ih => intro h; show sumTo f m + f m = sumTo g m + g m; rw [ih (fun k hk => h k (by omega)), h m (by omega)]
theorem sumTo_first (f : Nat → Int) : ∀ m, sumTo f (m + 1) = f 0 + sumTo (fun k => f (k + 1)) m := by
  intro m
  induction m with
  | zero => show 0 + f 0 = f 0 + 0; omega
  | succ m ih => show sumTo f (m + 1) + f (m + 1) = f 0 + (sumTo (fun k => f (k + 1)) m + f (m + 1)); rw [ih]; omega
theorem sumTo_rev (f : Nat → Int) : ∀ m, sumTo (fun k => f (m - 1 - k)) m = sumTo f m := by
  intro m
  induction m with
  | zero => rfl
  | succ m ih =>
    rw [sumTo_first]
    show f (m + 1 - 1 - 0) + sumTo (fun k => f (m + 1 - 1 - (k + 1))) m = sumTo f m + f m
    rw [sumTo_congr m (g := fun k => f (m - 1 - k)) (fun k hk => by show f (m + 1 - 1 - (k + 1)) = f (m - 1 - k); congr 1; omega), ih]
    show f m + _ = _
    omega
theorem distTo_sum (gs ws : List Int) : ∀ k, distTo gs ws k = sumTo (dterm gs ws) k := by
  intro k
  induction k with
  | zero => rfl
  | succ k ih => show distTo gs ws k + _ = sumTo _ k + _; rw [ih]
theorem dist_rev {gs ws : List Int} (h : gs.length = ws.length) : distI gs.reverse ws.reverse = distI gs ws := by
  have e1 : vwB ws.reverse = vwB ws := by unfold vwB allB; rw [List.all_reverse, List.length_reverse, rev_sum]
  have e2 : allB gs.reverse 500 = allB gs 500 := by unfold allB; rw [List.all_reverse]
  have e3 : distTo gs.reverse ws.reverse gs.length = distTo gs ws gs.length := by
    rw [distTo_sum, distTo_sum, ← sumTo_rev (dterm gs ws)]
    refine sumTo_congr _ (fun k hk => ?_)
    unfold dterm
    rw [rev_get gs hk, rev_get ws (by omega), rev_sum, rev_sum, h]
  unfold distI
  rw [e1, e2, List.length_reverse, List.length_reverse, rev_sum, e3]
end Go.Proofs.Ytlellobigckolaa
