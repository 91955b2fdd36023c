/- Accounts of owners: more units for one of them. No condition. -/
import Derived.Test.YtgmmdpdlekpmfaaGrA
namespace Go.Proofs.Ytgmmdpdlekpmfaa
/-- accounts with more units for an owner -/
def addA : List (Int × Int) → Int → Int → List (Int × Int)
  | [], o, u => if u = 0 then [] else [(o, u)]
  | a :: t, o, u => if u = 0 then a :: t else if o < a.1 then (o, u) :: a :: t else if o = a.1 then (a.1, a.2 + u) :: t else a :: addA t o u
/-- the units of an owner -/
def untV : List (Int × Int) → Int → Int
  | [], _ => 0
  | a :: t, o => if a.1 = o then a.2 else untV t o
def AscA (l : List (Int × Int)) : Prop := l.Pairwise (fun a b => a.1 < b.1)
def sumA : List (Int × Int) → Int
  | [] => 0
  | a :: t => a.2 + sumA t
theorem add_zero (l : List (Int × Int)) (o : Int) : addA l o 0 = l := by
  cases l with
  | nil => rfl
  | cons a t => unfold addA; rw [if_pos rfl]
theorem unt_none {l : List (Int × Int)} {o : Int} (h : ∀ a ∈ l, a.1 ≠ o) : untV l o = 0 := by
  induction l with
  | nil => rfl
  | cons a t ih =>
    unfold untV
    rw [if_neg (h a (by simp))]
    exact ih (fun b hb => h b (by simp [hb]))
theorem unt_add {l : List (Int × Int)} (h : AscA l) (o u p : Int) : untV (addA l o u) p = untV l p + if p = o then u else 0 := by
  induction l with
  | nil =>
    unfold addA
    by_cases c : u = 0
    · rw [if_pos c, c]; split <;> simp [untV]
    · rw [if_neg c]
      by_cases d : p = o
      · subst d; simp [untV]
      · have e : ¬ o = p := fun e => d e.symm
        simp [untV, d, e]
  | cons a t ih =>
    obtain ⟨h1, h2⟩ := List.pairwise_cons.1 h
    unfold addA
    by_cases c : u = 0
    · rw [if_pos c, c]; split <;> simp
    · rw [if_neg c]
      by_cases c1 : o < a.1
      · rw [if_pos c1]
        have hn : untV (a :: t) o = 0 := unt_none (fun b hb => by
          rcases List.mem_cons.1 hb with e | e
          · subst e; omega
          · have := h1 b e; omega)
        by_cases d : p = o
        · subst d
          rw [hn, if_pos rfl]
          show (if p = p then u else _) = _
          rw [if_pos rfl]; omega
        · rw [if_neg d]
          have e : ¬ o = p := fun e => d e.symm
          show (if o = p then u else untV (a :: t) p) = _
          rw [if_neg e]; omega
      · rw [if_neg c1]
        by_cases c2 : o = a.1
        · rw [if_pos c2]
          by_cases d : p = o
          · subst d
            have e : a.1 = p := c2.symm
            show (if a.1 = p then a.2 + u else _) = (if a.1 = p then a.2 else _) + _
            rw [if_pos e, if_pos e, if_pos rfl]
          · rw [if_neg d]
            have e : ¬ a.1 = p := fun e => d (by omega)
            show (if a.1 = p then a.2 + u else untV t p) = (if a.1 = p then a.2 else untV t p) + _
            rw [if_neg e, if_neg e]; omega
        · rw [if_neg c2]
          show (if a.1 = p then a.2 else untV (addA t o u) p) = (if a.1 = p then a.2 else untV t p) + _
          by_cases e : a.1 = p
          · rw [if_pos e, if_pos e, if_neg (by omega)]; omega
          · rw [if_neg e, if_neg e]; exact ih h2
theorem sum_add (l : List (Int × Int)) (o u : Int) : sumA (addA l o u) = sumA l + u := by
  induction l with
  | nil =>
    unfold addA
    by_cases c : u = 0
    · rw [if_pos c, c]; rfl
    · rw [if_neg c]; show u + 0 = 0 + u; omega
  | cons a t ih =>
    unfold addA
    by_cases c : u = 0
    · rw [if_pos c, c]; show _ = _ + (0 : Int); omega
    · rw [if_neg c]
      by_cases c1 : o < a.1
      · rw [if_pos c1]; show u + (a.2 + sumA t) = a.2 + sumA t + u; omega
      · rw [if_neg c1]
        by_cases c2 : o = a.1
        · rw [if_pos c2]; show a.2 + u + sumA t = a.2 + sumA t + u; omega
        · rw [if_neg c2]; show a.2 + sumA (addA t o u) = a.2 + sumA t + u; rw [ih]; omega
theorem add_len (l : List (Int × Int)) (o u : Int) : (addA l o u).length ≤ l.length + 1 := by
  induction l with
  | nil =>
    unfold addA
    split <;> simp
  | cons a t ih =>
    unfold addA
    by_cases c : u = 0
    · rw [if_pos c]; simp
    · rw [if_neg c]
      by_cases c1 : o < a.1
      · rw [if_pos c1]; simp
      · rw [if_neg c1]
        by_cases c2 : o = a.1
        · rw [if_pos c2]; simp
        · rw [if_neg c2]; simp; omega
theorem unt_mem {l : List (Int × Int)} (h : AscA l) {a : Int × Int} (ha : a ∈ l) : untV l a.1 = a.2 := by
  induction l with
  | nil => cases ha
  | cons b t ih =>
    obtain ⟨h1, h2⟩ := List.pairwise_cons.1 h
    rcases List.mem_cons.1 ha with e | e
    · subst e; unfold untV; rw [if_pos rfl]
    · have := h1 a e
      unfold untV
      rw [if_neg (by omega)]
      exact ih h2 e
/-- where an owner's account is, or would be -/
def atA : List (Int × Int) → Int → Nat
  | [], _ => 0
  | a :: t, o => if a.1 < o then atA t o + 1 else 0
theorem at_le (l : List (Int × Int)) (o : Int) : atA l o ≤ l.length := by
  induction l with
  | nil => exact Nat.le_refl _
  | cons a t ih => unfold atA; split <;> simp <;> omega
theorem at_lt {l : List (Int × Int)} {o : Int} : ∀ k, k < atA l o → (l.getD k (0, 0)).1 < o := by
  induction l with
  | nil => intro k h; exact absurd h (Nat.not_lt_zero _)
  | cons a t ih =>
    intro k h
    unfold atA at h
    by_cases c : a.1 < o
    · rw [if_pos c] at h
      cases k with
      | zero => exact c
      | succ k => exact ih k (by omega)
    · rw [if_neg c] at h; exact absurd h (Nat.not_lt_zero _)
theorem at_ge {l : List (Int × Int)} {o : Int} (h : atA l o < l.length) : ¬ (l.getD (atA l o) (0, 0)).1 < o := by
  induction l with
  | nil => exact absurd h (Nat.not_lt_zero _)
  | cons a t ih =>
    unfold atA at h ⊢
    by_cases c : a.1 < o
    · rw [if_pos c] at h ⊢; exact ih (by simpa using h)
    · rw [if_neg c]; exact c
theorem at_is {l : List (Int × Int)} {o : Int} {k : Nat} (hk : k ≤ l.length) (h1 : ∀ j, j < k → (l.getD j (0, 0)).1 < o) (h2 : k < l.length → ¬ (l.getD k (0, 0)).1 < o) : atA l o = k := by
  have := at_le l o
  rcases Nat.lt_trichotomy (atA l o) k with c | c | c
  · exact absurd (h1 _ c) (at_ge (by omega))
  · exact c
  · exact absurd (at_lt k c) (h2 (by omega))
/-- what an owner's account holds behind it -/
def addM (l : List (Int × Int)) (o u : Int) : List (Int × Int) :=
  if atA l o < l.length ∧ (l.getD (atA l o) (0, 0)).1 = o then l.take (atA l o) ++ (if 0 < u + (l.getD (atA l o) (0, 0)).2 then [(o, u + (l.getD (atA l o) (0, 0)).2)] else []) ++ l.drop (atA l o + 1)
  else l.take (atA l o) ++ (if 0 < u then [(o, u)] else []) ++ l.drop (atA l o)
theorem add_mid {l : List (Int × Int)} {o u : Int} (hp : ∀ a ∈ l, 0 < a.2) (hu : 0 ≤ u) : addM l o u = addA l o u := by
  induction l with
  | nil =>
    unfold addM addA atA
    by_cases c : u = 0
    · subst c; simp
    · have : 0 < u := by omega
      simp [c, this]
  | cons a t ih =>
    have hpa := hp a (by simp)
    have ih' := ih (fun b hb => hp b (by simp [hb]))
    unfold addA
    by_cases c1 : a.1 < o
    · have e : atA (a :: t) o = atA t o + 1 := by show (if a.1 < o then _ else _) = _; rw [if_pos c1]
      have e2 : addM (a :: t) o u = a :: addM t o u := by
        unfold addM
        rw [e]
        by_cases d : atA t o < t.length ∧ (t.getD (atA t o) (0, 0)).1 = o
        · rw [if_pos d, if_pos (by simpa using d)]; simp
        · rw [if_neg d, if_neg (by simpa using d)]; simp
      rw [e2, ih', if_neg (by omega : ¬ o < a.1), if_neg (by omega : ¬ o = a.1)]
      by_cases c : u = 0
      · rw [if_pos c, c, add_zero]
      · rw [if_neg c]
    · have e : atA (a :: t) o = 0 := by show (if a.1 < o then _ else _) = _; rw [if_neg c1]
      unfold addM
      rw [e]
      by_cases c2 : o = a.1
      · rw [if_pos ⟨by simp, by simp [c2]⟩]
        have hpos : 0 < u + a.2 := by omega
        simp only [List.getD_cons_zero, List.take_zero, List.nil_append, List.drop_succ_cons, List.drop_zero, Nat.zero_add]
        rw [if_pos hpos]
        by_cases c : u = 0
        · rw [if_pos c]; subst c c2; simp
        · rw [if_neg c, if_neg (by omega), if_pos c2, c2, Int.add_comm u a.2]; rfl
      · rw [if_neg (fun h => c2 (by simpa using h.2.symm))]
        simp only [List.take_zero, List.nil_append, List.drop_zero]
        by_cases c : u = 0
        · rw [if_pos c, if_neg (by omega)]; rfl
        · rw [if_neg c, if_pos (by omega : 0 < u), if_pos (by omega : o < a.1)]; rfl
end Go.Proofs.Ytgmmdpdlekpmfaa
