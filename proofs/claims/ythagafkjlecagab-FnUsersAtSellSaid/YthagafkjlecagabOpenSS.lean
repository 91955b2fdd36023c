/- Lists of lists of numbers that come in. No condition. -/
import Derived.Test.YthagafkjlecagabWish
import Derived.Deep.Matrix
namespace Go.Proofs.Ythagafkjlecagab
open Go.RowKit
set_option linter.unusedSimpArgs false
set_option linter.unusedVariables false
/-- what is told of lists of numbers that came in -/
def RowsIn (w : World) (a : Option Addr) (len cap : Nat) (rs : List (List Int)) : Prop := rs.length = len ∧ IsRows w a rs ∧ len ≤ cap ∧ cap ≤ maxLen ∧ ∀ r ∈ rs, r.length ≤ maxLen
/-- what is left behind the sizes of lists -/
def szL : Int → List (List Int) → Int
  | left, [] => left
  | left, r :: t => if left - (r.length : Int) < 0 then -1 else szL (left - (r.length : Int)) t
def szSS (left : Int) (rs : List (List Int)) : Int := if left - (rs.length : Int) < 0 then -1 else szL (left - (rs.length : Int)) rs
theorem szL_pos : ∀ (rs : List (List Int)) (left : Int), ¬ szL left rs < 0 → 0 ≤ left → ∀ r ∈ rs, (r.length : Int) ≤ left := by
  intro rs
  induction rs with
  | nil => intro left _ _ r h; cases h
  | cons x t ih =>
    intro left h h0 r hr
    have e : szL left (x :: t) = if left - (x.length : Int) < 0 then -1 else szL (left - (x.length : Int)) t := rfl
    rw [e] at h
    by_cases c : left - (x.length : Int) < 0
    · rw [if_pos c] at h; omega
    · rw [if_neg c] at h
      rcases List.mem_cons.1 hr with rfl | hr
      · omega
      · have := ih _ h (by omega) r hr; omega
theorem szSS_pos {left : Int} {rs : List (List Int)} (h : ¬ szSS left rs < 0) (h0 : 0 ≤ left) : (rs.length : Int) ≤ left ∧ ∀ r ∈ rs, (r.length : Int) ≤ left := by
  unfold szSS at h
  by_cases c : left - (rs.length : Int) < 0
  · rw [if_pos c] at h; omega
  · rw [if_neg c] at h
    exact ⟨by omega, fun r hr => by have := szL_pos rs _ h (by omega) r hr; omega⟩
end Go.Proofs.Ythagafkjlecagab
