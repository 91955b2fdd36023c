/- Bounds of all numbers of a list. No condition but those stated. -/
import Derived.Test.YtigapnbpgbfbhacMathQ
import Derived.Test.YtigapnbpgbfbhacAvg
namespace Go.Proofs.Ytigapnbpgbfbhac
theorem all_of_get {l : List Int} {a b m : Int} (h : ∀ i, i < l.length → a ≤ l.getD i 0 ∧ l.getD i 0 ≤ b) (hm : -m ≤ a ∧ b ≤ m) : ∀ z ∈ l, -m ≤ z ∧ z ≤ m := fun z hz => by
  obtain ⟨i, hi, rfl⟩ := List.getElem_of_mem hz
  have := h i hi
  rw [List.getD_eq_getElem?_getD, List.getElem?_eq_getElem hi] at this
  simp at this; omega
end Go.Proofs.Ytigapnbpgbfbhac
