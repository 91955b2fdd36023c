/- Plain laws on fractions: unequal products, parts that are none. -/
import Derived.Test.YtihogilepflegabPlainB
namespace Wsh
theorem ne_of_lt {x y u v : Int} (h : x * v < u * y ∨ u * y < x * v) : ¬ (x = u ∧ y = v) := by
  rintro ⟨rfl, rfl⟩; omega
theorem partI_none {n x y : Int} (h : ¬ ((0 ≤ n ∧ n ≤ 1000000) ∧ vfB x y = true)) : partI n x y = -1 := by
  by_cases h1 : n < 0 ∨ 1000000 < n
  · exact partI_no1 x y h1
  · apply partI_no2
    rw [Bool.eq_false_iff]; intro k; exact h ⟨by omega, k⟩
end Wsh
