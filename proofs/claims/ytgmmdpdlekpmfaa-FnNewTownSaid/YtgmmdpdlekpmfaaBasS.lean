/- Basins by the model: what is valid, one hour. Condition: at most 1048576 numbers. -/
import Derived.Test.YtgmmdpdlekpmfaaBasI
namespace Go.Proofs.Ytgmmdpdlekpmfaa
open Go.RowKit
set_option linter.unusedSimpArgs false
set_option linter.unusedVariables false
/-- spec.validBasin -/
theorem svb (r h : Int) (w : World) :
    Calls Try.prog 95 #[.agg #[.int .i64 r, .int .i64 h]] w fun e w' => e = .returned (.bool (vbB r h)) ∧ Below w.heap.size w w' := by
  by_cases a : r < 0 ∨ 20000 < r
  · rw [vb_no (by omega)]
    go_enter Try.func95, Try.ntmps95
    go_wp2_with fail
    refine (inRange_no r 0 20000 _ a).mono ?_
    rintro e w' ⟨rfl, rfl⟩
    go_wp2_with fail
    go_ret
    exact ⟨rfl, by go_grown⟩
  · have a1 : 0 ≤ r := by omega
    have a2 : r ≤ 20000 := by omega
    by_cases b : h < 0 ∨ r < h
    · rw [vb_no (by omega)]
      clear a
      go_enter Try.func95, Try.ntmps95
      go_wp2_with fail
      refine (inRange_yes r 0 20000 _ a1 a2).mono ?_
      rintro e w' ⟨rfl, rfl⟩
      go_wp2_with fail
      refine (inRange_no h 0 r _ b).mono ?_
      rintro e w' ⟨rfl, rfl⟩
      go_wp2_with fail
      go_ret
      exact ⟨rfl, by go_grown⟩
    · have b1 : 0 ≤ h := by omega
      have b2 : h ≤ r := by omega
      rw [vb_iff.2 ⟨a1, a2, b1, b2⟩]
      clear a b
      go_enter Try.func95, Try.ntmps95
      go_wp2_with fail
      refine (inRange_yes r 0 20000 _ a1 a2).mono ?_
      rintro e w' ⟨rfl, rfl⟩
      go_wp2_with fail
      refine (inRange_yes h 0 r _ b1 b2).mono ?_
      rintro e w' ⟨rfl, rfl⟩
      go_wp2_with fail
      go_ret
      exact ⟨rfl, by go_grown⟩
set_option maxHeartbeats 2000000 in
/-- spec.hour -/
theorem sHour (r hd c q : Int) (w : World) (hv : vbB r hd = true) (h1 : 0 ≤ c ∧ c ≤ 500) (h2 : 0 ≤ q ∧ q ≤ 500) :
    Calls Try.prog 158 #[.agg #[.int .i64 r, .int .i64 hd], .int .i64 c, .int .i64 q] w fun e w' => e = .returned (.tuple #[.agg #[.int .i64 r, .int .i64 (stepH r hd c q)], .int .i64 (giveH hd c q), .int .i64 (spillH r hd c q)]) ∧ Below w.heap.size w w' := by
  obtain ⟨r0, r1, r2, r3⟩ := vb_iff.1 hv
  obtain ⟨c0, c1⟩ := h1
  obtain ⟨q0, q1⟩ := h2
  clear hv
  by_cases e1 : q ≤ hd + c
  · by_cases e2 : r ≤ hd + c - q
    · have hg : giveH hd c q = q := by unfold giveH; omega
      have hs : stepH r hd c q = r := by unfold stepH; rw [hg]; omega
      have hsp : spillH r hd c q = hd + c - q - (r) := by unfold spillH; rw [hs, hg]
      rw [hsp, hg, hs]
      clear hg hs hsp
      go_enter Try.func158, Try.ntmps158
      go_wp2_with fail
      go_region
      all_goals (
        go_wp2_with fail
        refine bodyPost_ret (v := .tuple #[.agg #[.int .i64 r, .int .i64 r], .int .i64 q, .int .i64 (hd + c - q - r)]) (by simp [results, Try.results158, go_sem]) rfl ⟨rfl, by go_grown⟩)
    · have hg : giveH hd c q = q := by unfold giveH; omega
      have hs : stepH r hd c q = hd + c - q := by unfold stepH; rw [hg]; omega
      have hsp : spillH r hd c q = hd + c - q - (hd + c - q) := by unfold spillH; rw [hs, hg]
      rw [hsp, hg, hs]
      clear hg hs hsp
      go_enter Try.func158, Try.ntmps158
      go_wp2_with fail
      go_region
      all_goals (
        go_wp2_with fail
        refine bodyPost_ret (v := .tuple #[.agg #[.int .i64 r, .int .i64 (hd + c - q)], .int .i64 q, .int .i64 (hd + c - q - (hd + c - q))]) (by simp [results, Try.results158, go_sem]) rfl ⟨rfl, by go_grown⟩)
  · by_cases e2 : r ≤ hd + c - (hd + c)
    · have hg : giveH hd c q = (hd + c) := by unfold giveH; omega
      have hs : stepH r hd c q = r := by unfold stepH; rw [hg]; omega
      have hsp : spillH r hd c q = hd + c - (hd + c) - (r) := by unfold spillH; rw [hs, hg]
      rw [hsp, hg, hs]
      clear hg hs hsp
      go_enter Try.func158, Try.ntmps158
      go_wp2_with fail
      go_region
      all_goals (
        go_wp2_with fail
        refine bodyPost_ret (v := .tuple #[.agg #[.int .i64 r, .int .i64 r], .int .i64 (hd + c), .int .i64 (hd + c - (hd + c) - r)]) (by simp [results, Try.results158, go_sem]) rfl ⟨rfl, by go_grown⟩)
    · have hg : giveH hd c q = (hd + c) := by unfold giveH; omega
      have hs : stepH r hd c q = hd + c - (hd + c) := by unfold stepH; rw [hg]; omega
      have hsp : spillH r hd c q = hd + c - (hd + c) - (hd + c - (hd + c)) := by unfold spillH; rw [hs, hg]
      rw [hsp, hg, hs]
      clear hg hs hsp
      go_enter Try.func158, Try.ntmps158
      go_wp2_with fail
      go_region
      all_goals (
        go_wp2_with fail
        refine bodyPost_ret (v := .tuple #[.agg #[.int .i64 r, .int .i64 (hd + c - (hd + c))], .int .i64 (hd + c), .int .i64 (hd + c - (hd + c) - (hd + c - (hd + c)))]) (by simp [results, Try.results158, go_sem]) rfl ⟨rfl, by go_grown⟩)
end Go.Proofs.Ytgmmdpdlekpmfaa
