/- Customs (pure): one can be given up, and others don't matter. No condition but those stated. -/
import Derived.Test.YtigapnbpgbfbhabRulP
namespace Go.Proofs.Ytigapnbpgbfbhab
set_option linter.unusedVariables false
set_option linter.unusedSimpArgs false
theorem rmv_vr {rs : List Ru} (h : vrB rs = true) {i : Nat} (hi : i < rs.length) : vrB (rmv rs i) = true := by
  have hl := rmv_len hi
  refine vr_yes (by have := (vr_is h).1; omega) (fun k hk => ?_)
  rw [rmv_get hi]
  split
  · exact (vr_is h).2 k (by omega)
  · exact (vr_is h).2 (k + 1) (by omega)
theorem vd_at {rs : List Ru} (hv : vrB rs = true) {h u : Int} {k : Nat} (e : frF rs h u = (k : Int)) : vdV rs h u = (rs.getD k ru0).2.2.2.2 := by
  unfold vdV; rw [fruV_yes hv, e, if_neg (by omega), show ((k : Int)).toNat = k from by omega]
theorem vd_none {rs : List Ru} {h u : Int} (e : fruV rs h u = -1) : vdV rs h u = -1 := by
  unfold vdV; rw [e]; rfl
theorem fru_cases (rs : List Ru) (h u : Int) : fruV rs h u = -1 ∨ (vrB rs = true ∧ ∃ k : Nat, k < rs.length ∧ fruV rs h u = (k : Int) ∧ frF rs h u = (k : Int)) := by
  cases hv : vrB rs with
  | false => exact Or.inl (fruV_no hv)
  | true =>
    rw [fruV_yes hv]
    rcases fr_cases rs h u with ⟨a, _⟩ | ⟨k, a, b, _⟩
    · exact Or.inl a
    · exact Or.inr ⟨rfl, k, a, b, b⟩
/-- without a custom that is not the first one -/
theorem rmv_vd {rs : List Ru} (hv : vrB rs = true) {h u : Int} {k i : Nat} (e : frF rs h u = (k : Int)) (hi : i < rs.length) (hik : i ≠ k) : vdV (rmv rs i) h u = (rs.getD k ru0).2.2.2.2 := by
  obtain ⟨hk, hf, hl⟩ := fr_is e
  have hv' := rmv_vr hv hi
  have hl' := rmv_len hi
  by_cases c : i < k
  · have g : (rmv rs i).getD (k - 1) ru0 = rs.getD k ru0 := by rw [rmv_get hi, if_neg (by omega), show k - 1 + 1 = k from by omega]
    have e' : frF (rmv rs i) h u = ((k - 1 : Nat) : Int) := fr_at (by omega) (fun j hj => by
      rw [rmv_get hi]; split
      · exact hl j (by omega)
      · exact hl (j + 1) (by omega)) (by rw [g]; exact hf)
    rw [vd_at hv' e', g]
  · have g : (rmv rs i).getD k ru0 = rs.getD k ru0 := by rw [rmv_get hi, if_pos (by omega)]
    have e' : frF (rmv rs i) h u = (k : Int) := fr_at (by omega) (fun j hj => by
      rw [rmv_get hi, if_pos (by omega)]; exact hl j hj) (by rw [g]; exact hf)
    rw [vd_at hv' e', g]
/-- the first custom alone -/
theorem one_vd {rs : List Ru} (hv : vrB rs = true) {h u : Int} {k : Nat} (e : frF rs h u = (k : Int)) : vdV [rs.getD k ru0] h u = (rs.getD k ru0).2.2.2.2 := by
  obtain ⟨hk, hf, hl⟩ := fr_is e
  have hv' : vrB [rs.getD k ru0] = true := vr_yes (by show 1 ≤ 10; omega) (fun j hj => by
    have hj : j < 1 := hj
    obtain rfl : j = 0 := by omega
    exact (vr_is hv).2 k hk)
  have e' : frF [rs.getD k ru0] h u = ((0 : Nat) : Int) := fr_at (by show 0 < 1; omega) (fun j hj => absurd hj (Nat.not_lt_zero _)) hf
  rw [vd_at hv' e']; rfl
theorem one_take {α : Type} {l : List α} {k : Nat} (h : k < l.length) (d : α) : (l.drop k).take 1 = [l.getD k d] := by
  rw [List.getD_eq_getElem?_getD, List.getElem?_eq_getElem h, List.drop_eq_getElem_cons h]; rfl
/-- whether cases up to some hour and number of units have met a custom -/
theorem dead_met {rs : List Ru} (hv : vrB rs = true) {i : Nat} (hi : i < rs.length) : (i : Int) ∈ deadV rs ↔ everB rs i = false := by
  rw [deadV_yes hv, deadTo_mem]
  constructor
  · rintro ⟨j, a, _, c⟩
    have : j = i := by omega
    subst this; exact c
  · intro c; exact ⟨i, rfl, hi, c⟩
end Go.Proofs.Ytigapnbpgbfbhab
