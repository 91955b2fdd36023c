/- A share that is set, as the program and the model make it. No condition but those stated. -/
import Derived.Test.YtdlbjmhjaljlfabHd
namespace Go.Proofs.Ytdlbjmhjaljlfab

/-- what is left out behind the place of an owner -/
def skipL (L : Led) (o : Int) (k : Nat) : Nat := if k < L.length ∧ (L.getD k (0, 0)).1 = o then k + 1 else k
theorem filter_far {L : Led} {o : Int} (h : ∀ x ∈ L, x.1 ≠ o) : L.filter (fun h => decide (h.1 ≠ o)) = L := by
  rw [List.filter_eq_self]; intro a ha; simpa using h a ha
/-- the program's way: the first ones of lesser owners, the holding, and the others -/
theorem with_set {L : Led} (ha : Asc L) (o : Int) (q : Rat) : ∀ {k : Nat}, k ≤ L.length → (∀ j, j < k → (L.getD j (0, 0)).1 < o) → (k < L.length → o ≤ (L.getD k (0, 0)).1) →
    setL L o q = L.take k ++ (if q = 0 then [] else [(o, q)]) ++ L.drop (skipL L o k) := by
  have tail : ∀ {h : Int × Rat} {t : Led}, Asc (h :: t) → o ≤ h.1 → (h :: t).filter (fun h => decide (h.1 ≠ o)) = (h :: t).drop (skipL (h :: t) o 0) := by
    intro h t ha ho
    have h1 := List.pairwise_cons.1 ha
    have ht : t.filter (fun h => decide (h.1 ≠ o)) = t := filter_far (fun x hx => by have := h1.1 x hx; omega)
    by_cases e : h.1 = o
    · rw [show skipL (h :: t) o 0 = 1 from by unfold skipL; rw [if_pos ⟨by simp, e⟩], List.filter_cons_of_neg (by simp [e]), ht]; rfl
    · rw [show skipL (h :: t) o 0 = 0 from by unfold skipL; rw [if_neg (fun c => e c.2)], List.filter_cons_of_pos (by simp [e]), ht]; rfl
  induction L with
  | nil =>
    intro k hk _ _
    obtain rfl : k = 0 := by simpa using hk
    by_cases hq : q = 0
    · rw [hq, setL_zero]; rfl
    · rw [setL_ins hq, if_neg hq]; rfl
  | cons h t ih =>
    intro k hk h1 h2
    have hp := List.pairwise_cons.1 ha
    cases k with
    | zero =>
      have ho : o ≤ h.1 := h2 (by simp)
      by_cases hq : q = 0
      · rw [hq, setL_zero, tail ha ho, if_pos rfl]; rfl
      · rw [setL_ins hq, if_neg hq]
        show (if o ≤ h.1 then _ else _) = _
        rw [if_pos ho, tail ha ho]; rfl
    | succ k =>
      have ho : h.1 < o := h1 0 (by omega)
      have := ih hp.2 (k := k) (by simpa using hk) (fun j hj => h1 (j + 1) (by omega)) (fun hl => h2 (by simpa using hl))
      have es : skipL (h :: t) o (k + 1) = skipL t o k + 1 := by
        have eg : (h :: t).getD (k + 1) (0, 0) = t.getD k (0, 0) := rfl
        unfold skipL
        rw [eg]
        by_cases c : k < t.length ∧ (t.getD k (0, 0)).1 = o
        · rw [if_pos c, if_pos ⟨by have := c.1; simpa using this, c.2⟩]
        · rw [if_neg c, if_neg (fun d => c ⟨by simpa using d.1, d.2⟩)]
      rw [es]
      show _ = h :: (t.take k ++ _ ++ t.drop (skipL t o k))
      rw [← this]
      by_cases hq : q = 0
      · rw [hq, setL_zero, setL_zero, List.filter_cons_of_pos (by simp; omega)]
      · rw [setL_ins hq, setL_ins hq]
        show (if o ≤ h.1 then _ else _) = _
        rw [if_neg (by omega)]

/-- the model's loop, up to k -/
def setTo (L : Led) (o : Int) (q : Rat) (k : Nat) : Led × Bool := setP o q (decide (q = 0)) (L.take k)
theorem setTo_zero (L : Led) (o : Int) (q : Rat) : setTo L o q 0 = ([], decide (q = 0)) := rfl
theorem setTo_succ {L : Led} (o : Int) (q : Rat) {k : Nat} (h : k < L.length) :
    setTo L o q (k + 1) = ((setTo L o q k).1 ++ ((if !(setTo L o q k).2 && decide (o ≤ (L.getD k (0, 0)).1) then [(o, q)] else []) ++ (if (L.getD k (0, 0)).1 ≠ o then [L.getD k (0, 0)] else [])), (setTo L o q k).2 || decide (o ≤ (L.getD k (0, 0)).1)) := by
  unfold setTo
  rw [take_snocD L h (0, 0), setP_append]
  simp [setP]
theorem setTo_end (L : Led) (o : Int) (q : Rat) : setL L o q = (setTo L o q L.length).1 ++ (if (setTo L o q L.length).2 then [] else [(o, q)]) := by
  unfold setTo setL
  rw [List.take_of_length_le (Nat.le_refl _)]
theorem setTo_len (L : Led) (o : Int) (q : Rat) : ∀ k, k ≤ L.length → (setTo L o q k).1.length ≤ 2 * k := by
  intro k
  induction k with
  | zero => intro _; simp [setTo_zero]
  | succ k ih =>
    intro h
    have := ih (by omega)
    rw [setTo_succ o q (by omega)]
    simp only [List.length_append]
    have a : (if !(setTo L o q k).2 && decide (o ≤ (L.getD k (0, 0)).1) then [(o, q)] else [] : Led).length ≤ 1 := by split <;> simp
    have b : (if (L.getD k (0, 0)).1 ≠ o then [L.getD k (0, 0)] else [] : Led).length ≤ 1 := by split <;> simp
    omega
/-- the numbers of a share that is set, or none -/
def shareIs (n d : Int) (q : Rat) : Prop := (n = q.num ∧ d = (q.den : Int)) ∨ (n = 0 ∧ q = 0)
theorem shareIs_zero {n d : Int} {q : Rat} (h : shareIs n d q) : decide (q = 0) = decide (n = 0) := by
  rcases h with ⟨h, _⟩ | ⟨h, h2⟩
  · rw [h, decide_eq_decide]; exact (num_zero q).symm
  · rw [h, h2]; rfl
theorem shareIs_raw {n d : Int} {q : Rat} (h : shareIs n d q) (hq : q ≠ 0) (o : Int) : rawH (o, q) = (o, n, d) := by
  rcases h with ⟨h, h1⟩ | ⟨h, h2⟩
  · rw [h, h1]; rfl
  · exact absurd h2 hq
theorem share_ok (b : Bool) (q : Rat) : shareIs (Wsh.qn b q.num) (Wsh.qn b (q.den : Int)) (if b then q else 0) := by
  cases b with
  | true => exact .inl ⟨rfl, rfl⟩
  | false => exact .inr ⟨rfl, rfl⟩
theorem share_no : shareIs 0 1 0 := .inl ⟨rfl, rfl⟩
theorem fr_set {L : Led} (h : ∀ x ∈ L, frB x.2 = true) (o : Int) {q : Rat} (hq : frB q = true) : ∀ x ∈ setL L o q, frB x.2 = true := by
  by_cases e : q = 0
  · rw [e, setL_zero]; exact fun x hx => h x (List.mem_filter.1 hx).1
  · rw [setL_ins e]
    intro x hx
    rcases ins_mem hx with rfl | hx
    · exact hq
    · exact h x hx
theorem share_frA {L : Led} (h : ∀ x ∈ L, frB x.2 = true) (o : Int) : frB (shareL L o) = true := by
  by_cases e : shareL L o = 0
  · rw [e]; exact frB_zero
  · obtain ⟨x, hx, _, h2⟩ := share_mem e
    rw [← h2]; exact h x hx
theorem set_len {L : Led} (o : Int) (q : Rat) : (setL L o q).length ≤ L.length + 1 := by
  by_cases e : q = 0
  · rw [e, setL_zero]; have := List.length_filter_le (fun h : Int × Rat => decide (h.1 ≠ o)) L; omega
  · rw [setL_ins e]
    induction L with
    | nil => simp [insL]
    | cons h t ih =>
      unfold insL
      split
      · have := List.length_filter_le (fun h : Int × Rat => decide (h.1 ≠ o)) (h :: t); simp only [List.length_cons] at this ⊢; omega
      · simp only [List.length_cons]; omega
end Go.Proofs.Ytdlbjmhjaljlfab
