/- Channels (pure): shorter ones, counts of kids, leaves, paths. No condition but those stated. -/
import Derived.Test.YtigapnbpgbfbhaaFlowQ
namespace Go.Proofs.Ytigapnbpgbfbhaa
set_option linter.unusedVariables false

theorem take_getD {ns : List Nd} {k j : Nat} (h : j < k) : (ns.take k).getD j nd0 = ns.getD j nd0 := by
  rw [List.getD_eq_getElem?_getD, List.getD_eq_getElem?_getD, List.getElem?_take, if_pos h]
theorem vn_take {ns : List Nd} (hv : vnB ns = true) {k : Nat} (h1 : 1 ≤ k) (hk : k ≤ ns.length) : vnB (ns.take k) = true := by
  obtain ⟨a, b, c⟩ := vn_is hv
  have hl : (ns.take k).length = k := by rw [List.length_take]; omega
  refine vn_yes (by omega) (by omega) (fun j hj => ?_)
  have := c j (by omega)
  unfold okN at this ⊢
  rw [take_getD (by omega)]; exact this
/-- how many kids the first k nodes have, of the first m nodes -/
def cntT (ns : List Nd) (m : Nat) : Nat → Int
  | 0 => 0
  | k + 1 => cntT ns m k + ((kidsTo ns (k : Int) m).length : Int)
theorem cntT_succ (ns : List Nd) (m k : Nat) : cntT ns m (k + 1) = cntT ns m k + ((kidsTo ns (k : Int) m).length : Int) := rfl
theorem cntT_more (ns : List Nd) (m : Nat) : ∀ k : Nat, cntT ns (m + 1) k = cntT ns m k + if 0 ≤ (ns.getD m nd0).1 ∧ (ns.getD m nd0).1 < (k : Int) then 1 else 0 := by
  intro k
  induction k with
  | zero => show (0 : Int) = 0 + _; rw [if_neg (by omega)]; rfl
  | succ k ih =>
    rw [cntT_succ, cntT_succ, ih]
    by_cases e : (ns.getD m nd0).1 = (k : Int)
    · rw [kidsTo_yes e, List.length_append, if_neg (by omega), if_pos (by omega)]
      show _ + ((_ + 1 : Nat) : Int) = _; omega
    · rw [kidsTo_no e]
      by_cases c : 0 ≤ (ns.getD m nd0).1 ∧ (ns.getD m nd0).1 < (k : Int)
      · rw [if_pos c, if_pos (by omega)]; omega
      · rw [if_neg c, if_neg (by omega)]; omega
theorem cntT_zero (ns : List Nd) : ∀ k : Nat, cntT ns 0 k = 0 := by
  intro k
  induction k with
  | zero => rfl
  | succ k ih => rw [cntT_succ, ih]; rfl
theorem cnt_all {ns : List Nd} (hv : vnB ns = true) : ∀ m : Nat, m < ns.length → cntT ns (m + 1) ns.length = (m : Int) := by
  intro m
  induction m with
  | zero =>
    intro h
    rw [cntT_more, cntT_zero, vn_par0 hv, if_neg (by omega)]; rfl
  | succ m ih =>
    intro h
    have p := vn_par hv h (by omega)
    rw [cntT_more, ih (by omega), if_pos (by omega)]; omega
theorem cntT_bd (ns : List Nd) (m : Nat) : ∀ k : Nat, 0 ≤ cntT ns m k ∧ cntT ns m k ≤ (m : Int) * (k : Int) := by
  intro k
  induction k with
  | zero => exact ⟨Int.le_refl _, by show (0 : Int) ≤ (m : Int) * ((0 : Nat) : Int); simp⟩
  | succ k ih =>
    have a := kidsTo_len ns (k : Int) m
    rw [cntT_succ, show ((k + 1 : Nat) : Int) = (k : Int) + 1 from by omega, Int.mul_add]
    omega
/-- leaves -/
theorem leavesTo_mem (ns : List Nd) (z : Int) : ∀ k, z ∈ leavesTo ns k ↔ ∃ j : Nat, z = (j : Int) ∧ j < k ∧ (kidsF ns (j : Int)).length = 0 := by
  intro k
  induction k with
  | zero => exact ⟨fun h => (by cases h), fun ⟨j, _, h, _⟩ => absurd h (Nat.not_lt_zero _)⟩
  | succ k ih =>
    by_cases h : (kidsF ns (k : Int)).length = 0
    · rw [leavesTo_yes h, List.mem_append, List.mem_singleton, ih]
      constructor
      · rintro (⟨j, a, b, c⟩ | rfl)
        · exact ⟨j, a, by omega, c⟩
        · exact ⟨k, rfl, by omega, h⟩
      · rintro ⟨j, rfl, b, c⟩
        by_cases e : j = k
        · exact .inr (by rw [e])
        · exact .inl ⟨j, rfl, by omega, c⟩
    · rw [leavesTo_no h, ih]
      constructor
      · rintro ⟨j, a, b, c⟩; exact ⟨j, a, by omega, c⟩
      · rintro ⟨j, rfl, b, c⟩
        refine ⟨j, rfl, ?_, c⟩
        by_cases e : j = k
        · subst e; exact absurd c h
        · omega
theorem leavesTo_asc (ns : List Nd) : ∀ k i j, i < j → j < (leavesTo ns k).length → (leavesTo ns k).getD i 0 < (leavesTo ns k).getD j 0 := by
  intro k
  induction k with
  | zero => intro i j _ h; exact absurd h (Nat.not_lt_zero _)
  | succ k ih =>
    intro i j hij hj
    by_cases h : (kidsF ns (k : Int)).length = 0
    · rw [leavesTo_yes h] at hj ⊢
      rw [List.length_append] at hj
      have hj' : j < (leavesTo ns k).length + 1 := hj
      by_cases e : j < (leavesTo ns k).length
      · rw [app_l e, app_l (by omega)]; exact ih i j hij e
      · have e2 : j = (leavesTo ns k).length := by omega
        rw [app_l (by omega), e2, app_r]
        obtain ⟨m, hm, hmk, _⟩ := (leavesTo_mem ns _ k).1 (getD_mem (zs := leavesTo ns k) (k := i) (by omega))
        rw [hm]
        show (m : Int) < (k : Int)
        omega
    · rw [leavesTo_no h] at hj ⊢
      exact ih i j hij hj
theorem leaf_last {ns : List Nd} (hv : vnB ns = true) : 0 < (leavesTo ns ns.length).length := by
  obtain ⟨l1, _, _⟩ := vn_is hv
  have hz : (kidsF ns ((ns.length - 1 : Nat) : Int)).length = 0 := by
    cases e : kidsF ns ((ns.length - 1 : Nat) : Int) with
    | nil => rfl
    | cons z t =>
      obtain ⟨j, rfl, hj, hp⟩ := kids_bd (ns := ns) (at_ := ((ns.length - 1 : Nat) : Int)) (z := z) (by rw [e]; exact List.mem_cons_self ..)
      have := vn_parI hv hj
      omega
  have := (leavesTo_mem ns ((ns.length - 1 : Nat) : Int) ns.length).2 ⟨ns.length - 1, rfl, by omega, hz⟩
  cases e : leavesTo ns ns.length with
  | nil => rw [e] at this; cases this
  | cons z t => simp
/-- paths -/
theorem path_last {ns : List Nd} (hv : vnB ns = true) {k : Nat} (hk : k < ns.length) : 0 < (pathF ns (k : Int)).length ∧ (pathF ns (k : Int)).getD ((pathF ns (k : Int)).length - 1) 0 = (k : Int) := by
  rw [pathTo_step hv hk, List.length_append]
  refine ⟨by show 0 < _ + 1; omega, ?_⟩
  show (_ ++ [(k : Int)]).getD (_ + 1 - 1) 0 = _
  rw [Nat.add_sub_cancel, app_r]
theorem path_first {ns : List Nd} (hv : vnB ns = true) : ∀ k : Nat, k < ns.length → (pathF ns (k : Int)).getD 0 0 = 0 := by
  intro k
  induction k using Nat.strongRecOn with
  | ind k ih =>
    intro hk
    rw [pathTo_step hv hk]
    by_cases h0 : k = 0
    · subst h0
      rw [vn_par0 hv, pathF_neg ns (by omega)]; rfl
    · obtain ⟨p0, p1⟩ := vn_par hv hk (by omega)
      obtain ⟨m, hm⟩ : ∃ m : Nat, (ns.getD k nd0).1 = (m : Int) := ⟨(ns.getD k nd0).1.toNat, by omega⟩
      have hmk : m < k := by omega
      rw [hm, app_l (path_last hv (k := m) (by omega)).1]
      exact ih m hmk (by omega)
theorem path_next {ns : List Nd} (hv : vnB ns = true) : ∀ k : Nat, k < ns.length → ∀ i, i + 1 < (pathF ns (k : Int)).length → ∃ m p : Nat, (pathF ns (k : Int)).getD (i + 1) 0 = (m : Int) ∧ (pathF ns (k : Int)).getD i 0 = (p : Int) ∧ m < ns.length ∧ p < ns.length ∧ (ns.getD m nd0).1 = (p : Int) := by
  intro k
  induction k using Nat.strongRecOn with
  | ind k ih =>
    intro hk i hi
    rw [pathTo_step hv hk] at hi ⊢
    by_cases h0 : k = 0
    · subst h0
      rw [vn_par0 hv, pathF_neg ns (by omega)] at hi
      have : i + 1 < 1 := hi
      omega
    · obtain ⟨p0, p1⟩ := vn_par hv hk (by omega)
      obtain ⟨m, hm⟩ : ∃ m : Nat, (ns.getD k nd0).1 = (m : Int) := ⟨(ns.getD k nd0).1.toNat, by omega⟩
      have hmk : m < k := by omega
      obtain ⟨l0, l1⟩ := path_last hv (k := m) (by omega)
      have ihm := ih m hmk (by omega)
      rw [hm] at hi ⊢
      rw [List.length_append] at hi
      have hi' : i + 1 < (pathF ns (m : Int)).length + 1 := hi
      by_cases e : i + 1 < (pathF ns (m : Int)).length
      · rw [app_l e, app_l (by omega)]; exact ihm i e
      · have e2 : i + 1 = (pathF ns (m : Int)).length := by omega
        rw [e2, app_r, app_l (by omega), show i = (pathF ns (m : Int)).length - 1 from by omega, l1]
        exact ⟨k, m, rfl, rfl, hk, by omega, hm⟩
theorem delay_step {ns : List Nd} (hv : vnB ns = true) {k : Nat} (hk : k < ns.length) : delayF ns (k : Int) = delayF ns (ns.getD k nd0).1 + (ns.getD k nd0).2.2.2.2 := by
  unfold delayF
  rw [pathTo_step hv hk, dlySum_append]
  show _ + (dly ns (k : Int) + 0) = _
  have : dly ns (k : Int) = (ns.getD k nd0).2.2.2.2 := rfl
  rw [this]; omega
end Go.Proofs.Ytigapnbpgbfbhaa
