/- The exact laws' sizes, copies and comparisons of lists of lists of numbers. Conditions: those stated. -/
import Derived.Test.YthagafkjlecagabOpenSS
import Derived.Test.YthagafkjlecagabGrA
import Derived.Deep.RegionHeld3
namespace Go.Proofs.Ythagafkjlecagab
open Go.RowKit
set_option linter.unusedSimpArgs false
set_option linter.unusedVariables false
theorem infoRowL : (Try.prog.info? 87).map (fun i => (i.zero, i.size, i.bytes)) = some (some (.slice none 0 0), 1, 24) := by kernel_rfl
theorem rows_nth {w : World} {a : Option Addr} {rs : List (List Int)} (h : IsRows w a rs) {k : Nat} (hk : k < rs.length) : ∃ g o A cap, a = some ⟨g, o, none⟩ ∧ w.cell? ⟨g, o + k, none⟩ = some (.slice A (rs.getD k []).length cap) ∧ (rs.getD k []).length ≤ cap ∧ IsInts w A (rs.getD k []) := by
  rcases h with rfl | ⟨g, o, rfl, hc⟩
  · simp at hk
  · obtain ⟨A, cap, a, b, c⟩ := hc k hk
    exact ⟨g, o, A, cap, rfl, a, b, c⟩
theorem ret_z {z y : Int} (h : z = y) : Ending.returned (.int .i64 z) = Ending.returned (.int .i64 y) := by rw [h]
theorem szL_at {rs : List (List Int)} {k : Nat} (hk : k < rs.length) (L : Int) : szL L (rs.drop k) = if L - ((rs.getD k []).length : Int) < 0 then -1 else szL (L - ((rs.getD k []).length : Int)) (rs.drop (k + 1)) := by
  rw [List.drop_eq_getElem_cons hk]
  rw [List.getD_eq_getElem?_getD, List.getElem?_eq_getElem hk]; rfl
/-- block g is a row of lists of the call's own, each in a block of its own -/
def RowSS (w : World) (g : Nat) (G : Nat → Nat) (n : Nat) (rs : List (List Int)) : Prop := (w.rowIs g 87 rs.length fun j => if j < n then .slice (some ⟨G j, 0, none⟩) (rs.getD j []).length (rs.getD j []).length else .slice none 0 0) ∧ (∀ j, j < n → g < G j ∧ Row w (G j) (rs.getD j [])) ∧ ∀ i j, i < j → j < n → G i < G j
theorem RowSS.rows {w : World} {g : Nat} {G : Nat → Nat} {rs : List (List Int)} (h : RowSS w g G rs.length rs) : IsRows w (some ⟨g, 0, none⟩) rs := by
  refine .inr ⟨g, 0, rfl, fun i hi => ⟨some ⟨G i, 0, none⟩, (rs.getD i []).length, ?_, Nat.le_refl _, row_ints (h.2.1 i hi).2⟩⟩
  have := h.1.cell hi
  rw [if_pos hi] at this
  rw [Nat.zero_add]; exact this
/-- what toIntSS leaves -/
def CopiedSS (w : World) (rs : List (List Int)) (e : Ending) (w' : World) : Prop := ∃ (g : Nat) (G : Nat → Nat), e = .returned (.slice (some ⟨g, 0, none⟩) rs.length rs.length) ∧ w.heap.size ≤ g ∧ RowSS w' g G rs.length rs ∧ Below w.heap.size w w'
end Go.Proofs.Ythagafkjlecagab
