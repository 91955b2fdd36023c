/- New towns are valid. No condition. -/
import Derived.Test.YtgmmdpdlekpmfaaTwU
import Derived.Test.YtgmmdpdlekpmfaaShareOf
namespace Go.Proofs.Ytgmmdpdlekpmfaa
open Go.RowKit
set_option linter.unusedSimpArgs false
set_option linter.unusedVariables false

theorem new_vl {o : Int} (h1 : 1 ≤ o) (h2 : o ≤ 999) : vlR [(o, 1, 1)] = true := by
  have h : VL [(o, (1 : Rat))] := by
    refine ⟨by simp, ?_, ?_, ?_, ?_, ?_, ?_⟩
    · intro x hx; rw [List.mem_singleton] at hx; subst hx; exact ⟨h1, h2⟩
    · intro x hx; rw [List.mem_singleton] at hx; subst hx; show frB 1 = true; decide
    · intro x hx; rw [List.mem_singleton] at hx; subst hx; show (0 : Rat) < 1; decide
    · exact List.pairwise_singleton _ _
    · intro k hk
      have : k = 0 ∨ k = 1 := by simp at hk; omega
      rcases this with rfl | rfl
      · show frB 0 = true; decide
      · show frB ((1 : Rat) + 0) = true; rw [Rat.add_zero]; decide
    · show (1 : Rat) + 0 = 1; exact Rat.add_zero _
  exact vlR_raw h
theorem new_vt {o : Int} (h1 : 1 ≤ o) (h2 : o ≤ 999) : vtB [(o, 24)] = true := by
  unfold vtB allT
  have : (List.range [((o, 24) : Tn)].length).all (okT [(o, 24)]) = true := by
    rw [rng_all]
    intro j hj
    have : j = 0 := by simp at hj; omega
    subst this
    exact (okT_iff _ _).2 ⟨h1, h2, (by show (1 : Int) ≤ 24; decide), (by show (24 : Int) ≤ 336; decide)⟩
  rw [this]; rfl
theorem new_ok {o r rt : Int} (h : (inB3 o 1 999 && (inB3 r 0 20000 && inB3 rt 0 500)) = true) : newT o r rt = ⟨[(o, 1, 1)], [(o, 24)], [(-1, 0, 0, 500, 0)], r, 0, [], rt, 0, 0, 0⟩ ∧ twB (newT o r rt) = true := by
  have e : newT o r rt = ⟨[(o, 1, 1)], [(o, 24)], [(-1, 0, 0, 500, 0)], r, 0, [], rt, 0, 0, 0⟩ := by unfold newT; rw [if_pos h]
  refine ⟨e, ?_⟩
  simp only [Bool.and_eq_true] at h
  obtain ⟨a1, a2, a3⟩ := h
  obtain ⟨o1, o2⟩ := inB3_yes a1
  obtain ⟨r1, r2⟩ := inB3_yes a2
  rw [e]
  unfold twB
  dsimp only
  rw [new_vl o1 o2, new_vt o1 o2, show vnB [(-1, 0, 0, 500, 0)] = true from by decide, vb_iff.2 ⟨r1, r2, by omega, r1⟩, show acB [] = true from rfl, a3]
  rfl
theorem new_no {o r rt : Int} (h : (inB3 o 1 999 && (inB3 r 0 20000 && inB3 rt 0 500)) = false) : newT o r rt = Tw.zero := by unfold newT; rw [h]; rfl
theorem new_share {o : Int} (h1 : 1 ≤ o) (h2 : o ≤ 999) : shV [(o, 1, 1)] o = (1, 1) := by
  unfold shV
  rw [new_vl h1 h2]
  show shR [(o, 1, 1)] o = (1, 1)
  show (if o = o then _ else _) = _
  rw [if_pos rfl]
theorem new_who {o : Int} (h1 : 1 ≤ o) (h2 : o ≤ 999) : whoV [(o, 24)] 77 = o := by
  unfold whoV
  rw [new_vt h1 h2]
  show whoM [(o, 24)] 77 = o
  have e : sumT [((o, 24) : Tn)] = 24 := rfl
  unfold whoM
  rw [e]
  rfl
end Go.Proofs.Ytgmmdpdlekpmfaa
