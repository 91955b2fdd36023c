/- Lists of wishes, and whether they are valid, by the program. Condition: at most 1048576 lists. -/
import Derived.Test.YthagafkjlecagabWishP
import Derived.Test.YthagafkjlecagabHeirs
namespace Go.Proofs.Ythagafkjlecagab
open Go.RowKit
set_option linter.unusedSimpArgs false
set_option linter.unusedVariables false

/-- at a lie the lists rs, in this world -/
def IsRows (w : World) (a : Option Addr) (rs : List (List Int)) : Prop := rs = [] ∨ ∃ g o, a = some ⟨g, o, none⟩ ∧ ∀ i, i < rs.length → ∃ A cap, w.cell? ⟨g, o + i, none⟩ = some (.slice A (rs.getD i []).length cap) ∧ (rs.getD i []).length ≤ cap ∧ IsInts w A (rs.getD i [])
theorem rows_below {w w' : World} {a : Option Addr} {rs : List (List Int)} (h : IsRows w a rs) (hB : Below w.heap.size w w') : IsRows w' a rs := by
  rcases h with h | ⟨g, o, ha, hc⟩
  · exact .inl h
  · refine .inr ⟨g, o, ha, fun i hi => ?_⟩
    obtain ⟨A, cap, c, hl, hi2⟩ := hc i hi
    exact ⟨A, cap, (hB.cell (World.block_lt_of_cell? w _ c)).trans c, hl, ints_below hi2 hB⟩
theorem has_no {n : Nat} {r : List Int} {k : Nat} (hk : k < n) (h : (k : Int) ∉ r) : hasB n r = false := by
  unfold hasB
  rw [Bool.and_eq_false_iff]
  exact .inr (rng_no hk (decide_eq_false h))
theorem has_len {n : Nat} {r : List Int} (h : r.length ≠ n) : hasB n r = false := by
  unfold hasB; rw [decide_eq_false h]; rfl
theorem has_yes {n : Nat} {r : List Int} (h : r.length = n) (h2 : ∀ k : Nat, k < n → (k : Int) ∈ r) : hasB n r = true := by
  unfold hasB; rw [decide_eq_true h, rng_yes fun j hj => decide_eq_true (h2 j hj)]; rfl

theorem wish_no1 {rs : List (List Int)} (h : 8 < rs.length) : wishB rs = false := by unfold wishB; rw [decide_eq_false (by omega)]; rfl
theorem rows_mem {rs : List (List Int)} {k : Nat} (h : k < rs.length) : rs.getD k [] ∈ rs := by
  rw [List.getD_eq_getElem?_getD, List.getElem?_eq_getElem h]; exact List.getElem_mem _
theorem wish_no2 {rs : List (List Int)} {k : Nat} (h : k < rs.length) (h2 : ordB rs.length (rs.getD k []) = false) : wishB rs = false := by
  unfold wishB
  rw [Bool.and_eq_false_iff]
  refine .inr ?_
  rw [Bool.eq_false_iff]
  intro c
  rw [List.all_eq_true] at c
  rw [c _ (rows_mem h)] at h2
  cases h2
theorem wish_yes {rs : List (List Int)} (h : rs.length ≤ 8) (h2 : ∀ k, k < rs.length → ordB rs.length (rs.getD k []) = true) : wishB rs = true := by
  unfold wishB
  rw [decide_eq_true h, Bool.true_and, List.all_eq_true]
  intro x hx
  obtain ⟨k, hk, e⟩ := List.mem_iff_getElem.1 hx
  have := h2 k hk
  rwa [List.getD_eq_getElem?_getD, List.getElem?_eq_getElem hk, Option.getD_some, e] at this

end Go.Proofs.Ythagafkjlecagab
