/- Wishes (pure): a list of n numbers is an order of the n indices if it has each of them, or, the other way round, if all of them are indices and none comes twice. No condition. -/
import Derived.Test.YthagafkjlecagabGrA
namespace Go.Proofs.Ythagafkjlecagab
/-- what the model asks of the first k wishes of a list -/
def okW (n : Nat) (r : List Int) (k : Nat) : Bool := decide (0 ≤ r.getD k 0) && decide (r.getD k 0 < (n : Int)) && decide (r.getD k 0 ∉ r.take k)
/-- an order of n indices -/
def ordB (n : Nat) (r : List Int) : Bool := decide (r.length = n) && (List.range r.length).all (okW n r)
/-- valid wishes -/
def wishB (rs : List (List Int)) : Bool := decide (rs.length ≤ 8) && rs.all (ordB rs.length)
theorem has_all : ∀ (n : Nat) (l : List Int), (∀ i : Nat, i < n → (i : Int) ∈ l) → n ≤ l.length ∧ (l.length = n → l.Nodup ∧ ∀ x ∈ l, 0 ≤ x ∧ x < (n : Int)) := by
  intro n
  induction n with
  | zero =>
    intro l _
    refine ⟨Nat.zero_le _, fun h => ?_⟩
    have : l = [] := List.eq_nil_of_length_eq_zero h
    subst this
    exact ⟨List.nodup_nil, fun x hx => by simp at hx⟩
  | succ n ih =>
    intro l h
    have hn : (n : Int) ∈ l := h n (Nat.lt_succ_self n)
    have he : (l.erase (n : Int)).length = l.length - 1 := List.length_erase_of_mem hn
    have hpos : 0 < l.length := List.length_pos_of_mem hn
    obtain ⟨a, b⟩ := ih (l.erase (n : Int)) (fun i hi => (List.mem_erase_of_ne (by omega)).2 (h i (by omega)))
    refine ⟨by omega, fun hl => ?_⟩
    obtain ⟨c, d⟩ := b (by omega)
    have hp := List.perm_cons_erase hn
    refine ⟨hp.nodup_iff.2 (List.nodup_cons.2 ⟨fun hm => by have := d _ hm; omega, c⟩), fun x hx => ?_⟩
    rcases List.mem_cons.1 (hp.mem_iff.1 hx) with rfl | hm
    · omega
    · have := d x hm; omega
theorem in_all : ∀ (n : Nat) (l : List Int), l.Nodup → (∀ x ∈ l, 0 ≤ x ∧ x < (n : Int)) → l.length ≤ n ∧ (l.length = n → ∀ i : Nat, i < n → (i : Int) ∈ l) := by
  intro n
  induction n with
  | zero =>
    intro l _ h
    have : l = [] := List.eq_nil_iff_forall_not_mem.2 fun x hx => by have := h x hx; omega
    subst this
    exact ⟨Nat.le_refl _, fun _ i hi => absurd hi (Nat.not_lt_zero _)⟩
  | succ n ih =>
    intro l hd h
    by_cases hn : (n : Int) ∈ l
    · have he : (l.erase (n : Int)).length = l.length - 1 := List.length_erase_of_mem hn
      have hpos : 0 < l.length := List.length_pos_of_mem hn
      have hp := List.perm_cons_erase hn
      have hd2 := List.nodup_cons.1 (hp.nodup_iff.1 hd)
      obtain ⟨a, b⟩ := ih (l.erase (n : Int)) hd2.2 (fun x hx => by
        have h1 := h x (List.mem_of_mem_erase hx)
        have h2 : x ≠ (n : Int) := fun e => hd2.1 (by have h3 := hx; rw [e] at h3; exact h3)
        omega)
      refine ⟨by omega, fun hl i hi => ?_⟩
      by_cases e : i = n
      · subst e; exact hn
      · exact List.mem_of_mem_erase (b (by omega) i (by omega))
    · obtain ⟨a, b⟩ := ih l hd (fun x hx => by
        have h1 := h x hx
        have h2 : x ≠ (n : Int) := fun e => hn (by rw [← e]; exact hx)
        omega)
      exact ⟨by omega, fun hl => by omega⟩
theorem nodup_take {r : List Int} : r.Nodup ↔ ∀ k, k < r.length → r.getD k 0 ∉ r.take k := by
  have gd : ∀ k (hk : k < r.length), r.getD k 0 = r[k] := fun k hk => by rw [List.getD_eq_getElem?_getD, List.getElem?_eq_getElem hk]; rfl
  rw [List.nodup_iff_pairwise_ne, List.pairwise_iff_getElem]
  constructor
  · intro h k hk hm
    rw [gd k hk] at hm
    obtain ⟨i, hi, e⟩ := List.mem_take_iff_getElem.1 hm
    exact h i k (by omega) hk (by omega) e
  · intro h i j hi hj hij e
    have := h j hj
    rw [gd j hj, ← e] at this
    exact this (List.mem_take_iff_getElem.2 ⟨i, by omega, rfl⟩)
theorem ordB_iff (n : Nat) (r : List Int) : ordB n r = true ↔ r.length = n ∧ r.Nodup ∧ ∀ x ∈ r, 0 ≤ x ∧ x < (n : Int) := by
  have gd : ∀ k (hk : k < r.length), r.getD k 0 = r[k] := fun k hk => by rw [List.getD_eq_getElem?_getD, List.getElem?_eq_getElem hk]; rfl
  unfold ordB
  rw [Bool.and_eq_true, decide_eq_true_eq, rng_all, nodup_take]
  unfold okW
  simp only [Bool.and_eq_true, decide_eq_true_eq]
  constructor
  · rintro ⟨a, b⟩
    refine ⟨a, fun k hk => (b k hk).2, fun x hx => ?_⟩
    obtain ⟨k, hk, e⟩ := List.mem_iff_getElem.1 hx
    have := (b k hk).1
    rw [gd k hk, e] at this
    exact this
  · rintro ⟨a, b, c⟩
    exact ⟨a, fun k hk => ⟨by rw [gd k hk]; exact c _ (List.getElem_mem _), b k hk⟩⟩
/-- as the program asks it -/
def hasB (n : Nat) (r : List Int) : Bool := decide (r.length = n) && (List.range n).all fun i => decide ((i : Int) ∈ r)
theorem has_ord (n : Nat) (r : List Int) : hasB n r = ordB n r := by
  rw [Bool.eq_iff_iff, ordB_iff]
  unfold hasB
  rw [Bool.and_eq_true, decide_eq_true_eq, rng_all]
  simp only [decide_eq_true_eq]
  constructor
  · rintro ⟨a, b⟩
    exact ⟨a, (has_all n r b).2 a⟩
  · rintro ⟨a, b, c⟩
    exact ⟨a, (in_all n r b c).2 a⟩
end Go.Proofs.Ythagafkjlecagab
