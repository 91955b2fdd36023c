/- Duties (pure): whose turn it is by middle averages, how often, and where all weights are equal. No condition but those stated. -/
import Derived.Test.YtigapnbpgbfbhabMkZ
import Derived.Test.YtigapnbpgbfbhabMathQ
namespace Go.Proofs.Ytigapnbpgbfbhab
set_option linter.unusedVariables false
set_option linter.unusedSimpArgs false
/-- to which weight the unit after d units goes -/
def dpk (ws : List Int) (d : Nat) : Nat := pickB (avgB 2 ws (avgTo 2 ws d)) ws.length
theorem dpk_lt {ws : List Int} (h : 0 < ws.length) (d : Nat) : dpk ws d < ws.length := pickB_lt' h
def dutF (ws : List Int) (n : Nat) : List Int := mkZ n fun d => (dpk ws d : Int)
theorem dutF_len (ws : List Int) (n : Nat) : (dutF ws n).length = n := mkZ_len _ _
theorem dutF_get {ws : List Int} {n d : Nat} (h : d < n) : (dutF ws n).getD d 0 = (dpk ws d : Int) := mkZ_get _ h
theorem dutF_succ (ws : List Int) (n : Nat) : dutF ws (n + 1) = dutF ws n ++ [(dpk ws n : Int)] := by
  unfold dutF mkZ; rw [List.range_succ, List.map_append]; rfl
theorem avg_next {ws : List Int} (h : 0 < ws.length) (d i : Nat) : (avgTo 2 ws (d + 1)).getD i 0 = (avgTo 2 ws d).getD i 0 + if i = dpk ws d then 1 else 0 := by
  rw [avgTo_succ]
  show ((avgTo 2 ws d).set (dpk ws d) ((avgTo 2 ws d).getD (dpk ws d) 0 + 1)).getD i 0 = _
  rw [getD_setZ i _ (by rw [avgTo_len]; exact dpk_lt h d)]
  by_cases e : i = dpk ws d
  · rw [if_pos e, if_pos e, e]
  · rw [if_neg e, if_neg e]; omega
theorem avg_step {ws : List Int} (d : Nat) : avgTo 2 ws (d + 1) = (avgTo 2 ws d).set (dpk ws d) ((avgTo 2 ws d).getD (dpk ws d) 0 + 1) := avgTo_succ 2 ws d
theorem dut_count {ws : List Int} (h : 0 < ws.length) {n : Nat} {i : Nat} (hi : i < ws.length) : ∀ d, d ≤ n → cntTo (dutF ws n) (i : Int) d = (avgTo 2 ws d).getD i 0 := by
  intro d
  induction d with
  | zero =>
    intro _
    show (0 : Int) = (List.replicate ws.length (0 : Int)).getD i 0
    rw [repl_get]
  | succ d ih =>
    intro hd
    rw [cntTo_succ, ih (by omega), dutF_get (by omega), avg_next h]
    by_cases e : i = dpk ws d
    · rw [if_pos e, if_pos (by omega)]
    · rw [if_neg e, if_neg (by omega)]
theorem cnt_take (zs : List Int) (n : Int) (m : Nat) : ∀ k, k ≤ m → cntTo (zs.take m) n k = cntTo zs n k := by
  intro k
  induction k with
  | zero => intro _; rfl
  | succ k ih =>
    intro hk
    have e : (zs.take m).getD k 0 = zs.getD k 0 := by rw [List.getD_eq_getElem?_getD, List.getD_eq_getElem?_getD, List.getElem?_take_of_lt (by omega)]
    rw [cntTo_succ, cntTo_succ, ih (by omega), e]
def duV (n : Int) (ws : List Int) : List Int := if csB n ws = true then dutF ws n.toNat else []
theorem duV_no {n : Int} {ws : List Int} (h : csB n ws = false) : duV n ws = [] := by unfold duV; rw [h]; rfl
theorem duV_yes {n : Int} {ws : List Int} (h : csB n ws = true) : duV n ws = dutF ws n.toNat := by unfold duV; rw [h]; rfl
/-- equal weights -/
theorem eq_pick {m r : Nat} {z : Int} {gs : List Int} (hz : 0 < z) (hr : r < m) (q : Int) (hg : ∀ i, i < m → gs.getD i 0 = q + if i < r then 1 else 0) : ∀ k, k ≤ m → pickB (avgB 2 (List.replicate m z) gs) k = if k ≤ r then 0 else r := by
  have hw : ∀ i, i < m → (List.replicate m z).getD i 0 = z := fun i hi => by
    rw [List.getD_eq_getElem?_getD, List.getElem?_replicate, if_pos hi]; rfl
  have hR : ∀ i b, i < m → b < m → avgB 2 (List.replicate m z) gs i b = decide (gs.getD i 0 < gs.getD b 0) := fun i b hi hb => by
    unfold avgB
    rw [hw i hi, hw b hb]
    refine decide_eq_decide.2 ⟨fun h => ?_, fun h => ?_⟩
    · have := Int.lt_of_mul_lt_mul_left h (Int.le_of_lt hz); omega
    · exact Int.mul_lt_mul_of_pos_left (by omega) hz
  intro k
  induction k with
  | zero => intro _; rw [if_pos (Nat.zero_le _)]; rfl
  | succ k ih =>
    intro hk
    rw [pickB_succ, ih (by omega)]
    by_cases c : k ≤ r
    · rw [if_pos c, hR k 0 (by omega) (by omega), hg k (by omega), hg 0 (by omega)]
      by_cases d : k = r
      · subst d
        rw [if_neg (Nat.lt_irrefl _), if_neg (show ¬ k + 1 ≤ k by omega)]
        by_cases e : 0 < k
        · rw [if_pos e, if_pos (decide_eq_true (by omega))]
        · have : k = 0 := by omega
          subst this
          rw [if_neg e]
          split <;> rfl
      · rw [if_pos (show k < r by omega), if_pos (show 0 < r by omega), if_pos (show k + 1 ≤ r by omega), if_neg (by rw [decide_eq_true_eq]; omega)]
    · rw [if_neg c, hR k r (by omega) hr, hg k (by omega), hg r hr, if_neg (show ¬ k < r by omega), if_neg (Nat.lt_irrefl _), if_neg (by rw [decide_eq_true_eq]; omega), if_neg (show ¬ k + 1 ≤ r by omega)]
theorem eq_avg {m : Nat} {z : Int} (hz : 0 < z) (hm : 0 < m) : ∀ d, (∀ i, i < m → (avgTo 2 (List.replicate m z) d).getD i 0 = ((d / m : Nat) : Int) + if i < d % m then 1 else 0) ∧ dpk (List.replicate m z) d = d % m := by
  have hp : ∀ d, (∀ i, i < m → (avgTo 2 (List.replicate m z) d).getD i 0 = ((d / m : Nat) : Int) + if i < d % m then 1 else 0) → dpk (List.replicate m z) d = d % m := fun d h => by
    unfold dpk
    rw [List.length_replicate, eq_pick hz (Nat.mod_lt d hm) _ h m (Nat.le_refl _), if_neg (by have := Nat.mod_lt d hm; omega)]
  have : ∀ d, ∀ i, i < m → (avgTo 2 (List.replicate m z) d).getD i 0 = ((d / m : Nat) : Int) + if i < d % m then 1 else 0 := by
    intro d
    induction d with
    | zero =>
      intro i _
      rw [Nat.zero_div, Nat.zero_mod, if_neg (Nat.not_lt_zero _)]
      show (List.replicate _ (0 : Int)).getD i 0 = _
      rw [repl_get]; rfl
    | succ d ih =>
      intro i hi
      rw [avg_next (by rw [List.length_replicate]; exact hm), ih i hi, hp d ih]
      have hdm := Nat.div_add_mod d m
      have hlt := Nat.mod_lt d hm
      by_cases c : d % m + 1 = m
      · have e1 : (d + 1) % m = 0 := by
          rw [Nat.add_mod]
          by_cases m1 : m = 1
          · subst m1; omega
          · rw [Nat.mod_eq_of_lt (show 1 < m by omega), c, Nat.mod_self]
        have e2 : (d + 1) / m = d / m + 1 := by
          have h2 := Nat.div_add_mod (d + 1) m
          rw [e1] at h2
          have h3 : m * ((d + 1) / m) = m * (d / m + 1) := by rw [Nat.mul_add, Nat.mul_one]; omega
          exact Nat.eq_of_mul_eq_mul_left hm h3
        rw [e1, e2, if_neg (Nat.not_lt_zero _)]
        by_cases a : i < d % m
        · rw [if_pos a, if_neg (by omega)]; omega
        · rw [if_neg a, if_pos (by omega)]; omega
      · have e1 : (d + 1) % m = d % m + 1 := by
          rw [Nat.add_mod, Nat.mod_eq_of_lt (show 1 < m by omega), Nat.mod_eq_of_lt (by omega)]
        have e2 : (d + 1) / m = d / m := by
          have h2 := Nat.div_add_mod (d + 1) m
          rw [e1] at h2
          have h3 : m * ((d + 1) / m) = m * (d / m) := by omega
          exact Nat.eq_of_mul_eq_mul_left hm h3
        rw [e1, e2]
        by_cases a : i < d % m
        · rw [if_pos a, if_neg (by omega), if_pos (by omega)]; omega
        · rw [if_neg a]
          by_cases b : i = d % m
          · rw [if_pos b, if_pos (by omega)]; omega
          · rw [if_neg b, if_neg (by omega)]; omega
  intro d
  exact ⟨this d, hp d (this d)⟩
theorem eq_cs {n z : Int} {m : Nat} (h0 : 0 ≤ n) (h1 : n ≤ 500) (hz : 0 < z) (hz1 : z ≤ 1000) (hm : 0 < m) (hm2 : m ≤ 12) : csB n (List.replicate m z) = true := by
  rw [cs_is ⟨h0, h1⟩, vw_sum ((allB_iff _ _).2 (fun y hy => by rw [List.eq_of_mem_replicate hy]; omega)) (by rw [List.length_replicate]; exact hm2)]
  refine decide_eq_true ?_
  have : ∀ k : Nat, 0 < k → 0 < (List.replicate k z).sum := by
    intro k
    induction k with
    | zero => intro h; omega
    | succ k ih =>
      intro _
      rw [List.replicate_succ, List.sum_cons]
      by_cases c : 0 < k
      · have := ih c; omega
      · have : k = 0 := by omega
        subst this; show 0 < z + 0; omega
  exact this m hm
end Go.Proofs.Ytigapnbpgbfbhab
