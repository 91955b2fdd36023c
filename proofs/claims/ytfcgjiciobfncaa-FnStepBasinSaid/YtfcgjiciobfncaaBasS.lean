/- Basins by the model: what is valid, one hour. Condition: at most 1048576 numbers. -/
import Derived.Test.YtfcgjiciobfncaaBasI
namespace Go.Proofs.Ytfcgjiciobfncaa
open Go.RowKit
set_option linter.unusedSimpArgs false
set_option linter.unusedVariables false
/-- spec.validBasin -/
theorem svb (r h : Int) (w : World) :
    Calls Try.prog 61 #[.agg #[.int .i64 r, .int .i64 h]] w fun e w' => e = .returned (.bool (vbB r h)) ∧ Below w.heap.size w w' := by
  by_cases a : r < 0 ∨ 20000 < r
  · rw [vb_no (by omega)]
    go_enter Try.func61, Try.ntmps61
    go_wp2_with fail
    refine (inRange_no r 0 20000 _ a).mono ?_
    rintro e w' ⟨rfl, rfl⟩
    go_wp2_with fail
    go_ret
    exact ⟨rfl, by go_grown⟩
  · have a1 : 0 ≤ r := by omega
    have a2 : r ≤ 20000 := by omega
    by_cases b : h < 0 ∨ r < h
    · rw [vb_no (by omega)]
      clear a
      go_enter Try.func61, Try.ntmps61
      go_wp2_with fail
      refine (inRange_yes r 0 20000 _ a1 a2).mono ?_
      rintro e w' ⟨rfl, rfl⟩
      go_wp2_with fail
      refine (inRange_no h 0 r _ b).mono ?_
      rintro e w' ⟨rfl, rfl⟩
      go_wp2_with fail
      go_ret
      exact ⟨rfl, by go_grown⟩
    · have b1 : 0 ≤ h := by omega
      have b2 : h ≤ r := by omega
      rw [vb_iff.2 ⟨a1, a2, b1, b2⟩]
      clear a b
      go_enter Try.func61, Try.ntmps61
      go_wp2_with fail
      refine (inRange_yes r 0 20000 _ a1 a2).mono ?_
      rintro e w' ⟨rfl, rfl⟩
      go_wp2_with fail
      refine (inRange_yes h 0 r _ b1 b2).mono ?_
      rintro e w' ⟨rfl, rfl⟩
      go_wp2_with fail
      go_ret
      exact ⟨rfl, by go_grown⟩
/-- spec.ValidBasin -/
theorem sVB (r h : Int) (w : World) :
    Calls Try.prog 19 #[.agg #[.int .i64 r, .int .i64 h]] w fun e w' => e = .returned (.bool (vbB r h)) ∧ Below w.heap.size w w' := by
  go_enter Try.func19, Try.ntmps19
  go_wp2_with fail
  refine (svb r h _).mono ?_
  rintro e w1 ⟨rfl, hB⟩
  go_wp2_with fail
  go_ret
  exact ⟨rfl, bel_tr (by go_grown) hB⟩
/-- spec.validDay -/
theorem sDay (a b : Option Addr) (ca cb : Nat) (cs ws : List Int) (w : World) (ha : IsInts w a cs) (hb : IsInts w b ws) (hc : cs.length ≤ 1048576) (hw : ws.length ≤ 1048576) :
    Calls Try.prog 69 #[.slice a cs.length ca, .slice b ws.length cb] w fun e w' => e = .returned (.bool (vdB cs ws)) ∧ w = w' := by
  have CA := svflows a ca cs w ha hc
  have CB := svflows b cb ws w hb hw
  unfold vdB
  change Calls _ _ _ _ fun e w' => e = .returned (.bool (vfl cs)) ∧ w = w' at CA
  change Calls _ _ _ _ fun e w' => e = .returned (.bool (vfl ws)) ∧ w = w' at CB
  clear ha hb
  obtain ⟨x, hx⟩ : ∃ x, vfl cs = x := ⟨_, rfl⟩
  obtain ⟨y, hy⟩ : ∃ y, vfl ws = y := ⟨_, rfl⟩
  rw [hx, hy]
  rw [hx] at CA
  rw [hy] at CB
  clear hx hy
  cases x with
  | false =>
    go_enter Try.func69, Try.ntmps69
    go_wp2_with fail
    refine (CA).mono ?_
    rintro e w' ⟨rfl, rfl⟩
    go_wp2_with fail
    go_ret
    exact ⟨rfl, rfl⟩
  | true =>
    cases y with
    | false =>
      go_enter Try.func69, Try.ntmps69
      go_wp2_with fail
      refine (CA).mono ?_
      rintro e w' ⟨rfl, rfl⟩
      go_wp2_with fail
      refine (CB).mono ?_
      rintro e w' ⟨rfl, rfl⟩
      go_wp2_with fail
      go_ret
      exact ⟨rfl, rfl⟩
    | true =>
      by_cases hl : cs.length = ws.length
      · rw [decide_eq_true hl]
        have e1 : ((cs.length : Int) == (ws.length : Int)) = true := by rw [hl]; simp
        clear hl
        go_enter Try.func69, Try.ntmps69
        go_wp2_with fail
        refine (CA).mono ?_
        rintro e w' ⟨rfl, rfl⟩
        go_wp2_with fail
        refine (CB).mono ?_
        rintro e w' ⟨rfl, rfl⟩
        go_wp2_with fail
        go_ret
        exact ⟨rfl, rfl⟩
      · rw [decide_eq_false hl]
        have e1 : ((cs.length : Int) == (ws.length : Int)) = false := by rw [beq_eq_false_iff_ne]; omega
        clear hl
        go_enter Try.func69, Try.ntmps69
        go_wp2_with fail
        refine (CA).mono ?_
        rintro e w' ⟨rfl, rfl⟩
        go_wp2_with fail
        refine (CB).mono ?_
        rintro e w' ⟨rfl, rfl⟩
        go_wp2_with fail
        go_ret
        exact ⟨rfl, rfl⟩
set_option maxHeartbeats 2000000 in
/-- spec.hour -/
theorem sHour (r hd c q : Int) (w : World) (hv : vbB r hd = true) (h1 : 0 ≤ c ∧ c ≤ 500) (h2 : 0 ≤ q ∧ q ≤ 500) :
    Calls Try.prog 66 #[.agg #[.int .i64 r, .int .i64 hd], .int .i64 c, .int .i64 q] w fun e w' => e = .returned (.tuple #[.agg #[.int .i64 r, .int .i64 (stepH r hd c q)], .int .i64 (giveH hd c q), .int .i64 (spillH r hd c q)]) ∧ Below w.heap.size w w' := by
  obtain ⟨r0, r1, r2, r3⟩ := vb_iff.1 hv
  obtain ⟨c0, c1⟩ := h1
  obtain ⟨q0, q1⟩ := h2
  clear hv
  by_cases e1 : q ≤ hd + c
  · by_cases e2 : r ≤ hd + c - q
    · have hg : giveH hd c q = q := by unfold giveH; omega
      have hs : stepH r hd c q = r := by unfold stepH; rw [hg]; omega
      have hsp : spillH r hd c q = hd + c - q - (r) := by unfold spillH; rw [hs, hg]
      rw [hsp, hg, hs]
      clear hg hs hsp
      go_enter Try.func66, Try.ntmps66
      go_wp2_with fail
      go_region
      all_goals (
        go_wp2_with fail
        refine bodyPost_ret (v := .tuple #[.agg #[.int .i64 r, .int .i64 r], .int .i64 q, .int .i64 (hd + c - q - r)]) (by simp [results, Try.results66, go_sem]) rfl ⟨rfl, by go_grown⟩)
    · have hg : giveH hd c q = q := by unfold giveH; omega
      have hs : stepH r hd c q = hd + c - q := by unfold stepH; rw [hg]; omega
      have hsp : spillH r hd c q = hd + c - q - (hd + c - q) := by unfold spillH; rw [hs, hg]
      rw [hsp, hg, hs]
      clear hg hs hsp
      go_enter Try.func66, Try.ntmps66
      go_wp2_with fail
      go_region
      all_goals (
        go_wp2_with fail
        refine bodyPost_ret (v := .tuple #[.agg #[.int .i64 r, .int .i64 (hd + c - q)], .int .i64 q, .int .i64 (hd + c - q - (hd + c - q))]) (by simp [results, Try.results66, go_sem]) rfl ⟨rfl, by go_grown⟩)
  · by_cases e2 : r ≤ hd + c - (hd + c)
    · have hg : giveH hd c q = (hd + c) := by unfold giveH; omega
      have hs : stepH r hd c q = r := by unfold stepH; rw [hg]; omega
      have hsp : spillH r hd c q = hd + c - (hd + c) - (r) := by unfold spillH; rw [hs, hg]
      rw [hsp, hg, hs]
      clear hg hs hsp
      go_enter Try.func66, Try.ntmps66
      go_wp2_with fail
      go_region
      all_goals (
        go_wp2_with fail
        refine bodyPost_ret (v := .tuple #[.agg #[.int .i64 r, .int .i64 r], .int .i64 (hd + c), .int .i64 (hd + c - (hd + c) - r)]) (by simp [results, Try.results66, go_sem]) rfl ⟨rfl, by go_grown⟩)
    · have hg : giveH hd c q = (hd + c) := by unfold giveH; omega
      have hs : stepH r hd c q = hd + c - (hd + c) := by unfold stepH; rw [hg]; omega
      have hsp : spillH r hd c q = hd + c - (hd + c) - (hd + c - (hd + c)) := by unfold spillH; rw [hs, hg]
      rw [hsp, hg, hs]
      clear hg hs hsp
      go_enter Try.func66, Try.ntmps66
      go_wp2_with fail
      go_region
      all_goals (
        go_wp2_with fail
        refine bodyPost_ret (v := .tuple #[.agg #[.int .i64 r, .int .i64 (hd + c - (hd + c))], .int .i64 (hd + c), .int .i64 (hd + c - (hd + c) - (hd + c - (hd + c)))]) (by simp [results, Try.results66, go_sem]) rfl ⟨rfl, by go_grown⟩)
end Go.Proofs.Ytfcgjiciobfncaa
