/- DistanceOf, impl's and spec's. Condition: at most 1048576 numbers in each slice. -/
import Derived.Test.YtojkgabkiagjdacWeights
import Derived.Test.YtojkgabkiagjdacOwnInts
import Derived.WalkLawsBesides
namespace Go.Proofs.Ytojkgabkiagjdac
open Go.RowKit

theorem sum_bdm (zs : List Int) (m : Int) (h : allB zs m = true) : ∀ k, k ≤ zs.length → 0 ≤ (zs.take k).sum ∧ (zs.take k).sum ≤ m * (k : Int) := by
  intro k
  induction k with
  | zero => intro _; simp
  | succ k ih =>
    intro hk
    have h1 := ih (by omega)
    have h2 := (allB_iff zs m).1 h _ (getD_mem (k := k) (by omega))
    rw [take_sum zs k (by omega)]
    have h3 : m * ((k + 1 : Nat) : Int) = m * (k : Int) + m := by rw [Int.natCast_add, Int.mul_add]; simp
    rw [h3]; omega
theorem sum_all {zs : List Int} {m : Int} (h : allB zs m = true) : 0 ≤ zs.sum ∧ zs.sum ≤ m * (zs.length : Int) := by
  have := sum_bdm zs m h zs.length (Nat.le_refl _)
  rwa [List.take_of_length_le (Nat.le_refl _)] at this

def absd (a b : Int) : Int := if a < b then b - a else a - b
theorem absd_lt {a b : Int} (h : a < b) : absd a b = b - a := if_pos h
theorem absd_ge {a b : Int} (h : ¬ a < b) : absd a b = a - b := if_neg h
def dterm (gs ws : List Int) (k : Nat) : Int := absd (gs.getD k 0 * ws.sum) (ws.getD k 0 * gs.sum)
def distTo (gs ws : List Int) : Nat → Int
  | 0 => 0
  | k + 1 => distTo gs ws k + dterm gs ws k
/-- what DistanceOf returns -/
def distI (gs ws : List Int) : Int := if vwB ws && decide (gs.length = ws.length) && allB gs 500 && decide (gs.sum ≤ 500) then distTo gs ws gs.length else -1
theorem dist_no1 {gs ws : List Int} (h : vwB ws = false) : distI gs ws = -1 := by unfold distI; rw [h]; rfl
theorem dist_no2 {gs ws : List Int} (h : gs.length ≠ ws.length) : distI gs ws = -1 := by unfold distI; rw [decide_eq_false h]; simp
theorem dist_no3 {gs ws : List Int} (h : allB gs 500 = false) : distI gs ws = -1 := by unfold distI; rw [h]; simp
theorem dist_no4 {gs ws : List Int} (h : 500 < gs.sum) : distI gs ws = -1 := by unfold distI; rw [decide_eq_false (by omega : ¬ gs.sum ≤ 500)]; simp
theorem dist_yes {gs ws : List Int} (h1 : vwB ws = true) (h2 : gs.length = ws.length) (h3 : allB gs 500 = true) (h4 : gs.sum ≤ 500) : distI gs ws = distTo gs ws gs.length := by
  unfold distI; rw [h1, h3, decide_eq_true h2, decide_eq_true h4]; rfl
/-- what holds of valid divisions -/
structure Div (gs ws : List Int) : Prop where
  len : gs.length = ws.length
  le : ws.length ≤ 12
  g : allB gs 500 = true
  w : allB ws 1000 = true
  gs0 : 0 ≤ gs.sum
  gs1 : gs.sum ≤ 500
  ws0 : 0 ≤ ws.sum
  ws1 : ws.sum ≤ 12000
theorem div_of {gs ws : List Int} (h1 : vwB ws = true) (h2 : gs.length = ws.length) (h3 : allB gs 500 = true) (h4 : gs.sum ≤ 500) : Div gs ws := by
  obtain ⟨a, b, c⟩ := vw_is h1
  have e := sum_all a
  exact ⟨h2, b, h3, a, (sum_all h3).1, h4, e.1, by omega⟩
theorem prod_bd {gs ws : List Int} (d : Div gs ws) {k : Nat} (hk : k < gs.length) : 0 ≤ gs.getD k 0 ∧ gs.getD k 0 ≤ 500 ∧ 0 ≤ ws.getD k 0 ∧ ws.getD k 0 ≤ 1000 ∧ 0 ≤ gs.getD k 0 * ws.sum ∧ gs.getD k 0 * ws.sum ≤ 6000000 ∧ 0 ≤ ws.getD k 0 * gs.sum ∧ ws.getD k 0 * gs.sum ≤ 500000 := by
  have a := (allB_iff gs 500).1 d.g _ (getD_mem hk)
  have b := (allB_iff ws 1000).1 d.w _ (getD_mem (k := k) (by rw [← d.len]; exact hk))
  exact ⟨a.1, a.2, b.1, b.2, Int.mul_nonneg a.1 d.ws0, Int.le_trans (Int.mul_le_mul a.2 d.ws1 d.ws0 (by omega)) (by omega), Int.mul_nonneg b.1 d.gs0, Int.le_trans (Int.mul_le_mul b.2 d.gs1 d.gs0 (by omega)) (by omega)⟩
theorem dist_bd {gs ws : List Int} (d : Div gs ws) : ∀ k, k ≤ gs.length → 0 ≤ distTo gs ws k ∧ distTo gs ws k ≤ 7000000 * (k : Int) := by
  intro k
  induction k with
  | zero => intro _; exact ⟨Int.le_refl _, by simp [distTo]⟩
  | succ k ih =>
    intro hk
    have h1 := ih (by omega)
    obtain ⟨_, _, _, _, a, b, c, e⟩ := prod_bd d (k := k) (by omega)
    show 0 ≤ distTo gs ws k + absd _ _ ∧ distTo gs ws k + absd _ _ ≤ _
    unfold absd
    split <;> omega

/-- impl.difference -/
theorem idiff (a b : Int) (w : World) (ha : 0 ≤ a ∧ a ≤ 10000000) (hb : 0 ≤ b ∧ b ≤ 10000000) :
    Calls Try.prog 60 #[.int .i64 a, .int .i64 b] w fun e w' => e = .returned (.int .i64 (absd a b)) ∧ w = w' := by
  obtain ⟨a0, a1⟩ := ha
  obtain ⟨b0, b1⟩ := hb
  by_cases h : a < b
  · go_enter Try.func60, Try.ntmps60
    go_wp2
    go_ret
    exact ⟨ret_int (absd_lt h).symm, rfl⟩
  · go_enter Try.func60, Try.ntmps60
    go_wp2
    go_ret
    exact ⟨ret_int (absd_ge (by omega)).symm, rfl⟩

theorem dterm_comm (gs ws : List Int) (k : Nat) : distTo gs ws (k + 1) = distTo gs ws k + absd (gs.getD k 0 * ws.sum) (gs.sum * ws.getD k 0) := by
  rw [Int.mul_comm gs.sum]; rfl
end Go.Proofs.Ytojkgabkiagjdac
