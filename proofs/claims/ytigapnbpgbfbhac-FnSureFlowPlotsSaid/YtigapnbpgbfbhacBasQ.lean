/- What the laws on basins say (pure). No condition but those stated. -/
import Derived.Test.YtigapnbpgbfbhacBis
namespace Go.Proofs.Ytigapnbpgbfbhac
set_option linter.unusedVariables false
theorem hrs_takes : ∀ (k : Nat) (cs ws : List Int), hrs (cs.take k) (ws.take k) = (hrs cs ws).take k := by
  intro k
  induction k with
  | zero => intro cs ws; rfl
  | succ k ih =>
    intro cs ws
    cases cs with
    | nil => rfl
    | cons x t =>
      cases ws with
      | nil => rfl
      | cons y s => show (x, y) :: hrs (t.take k) (s.take k) = (x, y) :: (hrs t s).take k; rw [ih]
theorem hrs_drops : ∀ (k : Nat) (cs ws : List Int), hrs (cs.drop k) (ws.drop k) = (hrs cs ws).drop k := by
  intro k
  induction k with
  | zero => intro cs ws; rfl
  | succ k ih =>
    intro cs ws
    cases cs with
    | nil => rfl
    | cons x t =>
      cases ws with
      | nil => show hrs (t.drop k) [] = []; unfold hrs; rw [List.zip_nil_right]
      | cons y s => exact ih t s
theorem vfl_takes {zs : List Int} (h : vfl zs = true) (k : Nat) : vfl (zs.take k) = true := by
  obtain ⟨l, hz⟩ := vfl_is h
  unfold vfl
  rw [Bool.and_eq_true, decide_eq_true_eq, allB_iff, List.length_take]
  exact ⟨by omega, fun z m => hz z (List.mem_of_mem_take m)⟩
theorem vfl_drops {zs : List Int} (h : vfl zs = true) (k : Nat) : vfl (zs.drop k) = true := by
  obtain ⟨l, hz⟩ := vfl_is h
  unfold vfl
  rw [Bool.and_eq_true, decide_eq_true_eq, allB_iff, List.length_drop]
  exact ⟨by omega, fun z m => hz z (List.mem_of_mem_drop m)⟩
/-- P67: the first hours, and the others -/
theorem run_takes {r h : Int} {cs ws : List Int} (e : runBa r h cs ws = true) {k : Nat} (hk : k ≤ cs.length) : runBa r h (cs.take k) (ws.take k) = true ∧ runBa r (endB r h ((hrs cs ws).take k)) (cs.drop k) (ws.drop k) = true := by
  obtain ⟨⟨r0, r1, r2, r3⟩, v1, v2, hl⟩ := run_is e
  have b := end_bd ((hrs cs ws).take k) h (hok_take (hok_hrs v1 v2) k) r2 r3
  unfold runBa vdB
  rw [vfl_takes v1, vfl_takes v2, vfl_drops v1, vfl_drops v2, vb_iff.2 ⟨r0, r1, r2, r3⟩, vb_iff.2 ⟨r0, r1, b.1, b.2⟩]
  simp [List.length_take, List.length_drop, hl]
theorem run_split {r h : Int} {cs ws : List Int} (e : runBa r h cs ws = true) {k : Nat} (hk : k ≤ cs.length) :
    runL r h (cs.take k) (ws.take k) ++ runL r (endB r h ((hrs cs ws).take k)) (cs.drop k) (ws.drop k) = runL r h cs ws ∧ runH r h (cs.take k) (ws.take k) = endB r h ((hrs cs ws).take k) ∧ runH r (endB r h ((hrs cs ws).take k)) (cs.drop k) (ws.drop k) = runH r h cs ws ∧ runR r h (cs.take k) (ws.take k) = r ∧ runR r (endB r h ((hrs cs ws).take k)) (cs.drop k) (ws.drop k) = r := by
  obtain ⟨e1, e2⟩ := run_takes e hk
  unfold runL runH runR
  rw [e, e1, e2, hrs_takes, hrs_drops]
  simp only [if_true]
  refine ⟨?_, trivial, ?_, trivial, trivial⟩
  · rw [← gives_append, List.take_append_drop]
  · rw [← end_append, List.take_append_drop]
/-- P68 -/
theorem run_water {r h : Int} {cs ws : List Int} (e : runBa r h cs ws = true) : h + cs.sum = (runL r h cs ws).sum + (spiL r h cs ws).sum + runH r h cs ws := by
  have hl := (run_is e).2.2.2
  unfold runL spiL runH
  rw [e]
  simp only [if_true]
  rw [gives_sum, spills_sum, ← come_sum hl]
  exact water r (hrs cs ws) h
theorem spi_vfl {r h : Int} {cs ws : List Int} (e : runBa r h cs ws = true) : ∀ z ∈ spiL r h cs ws, 0 ≤ z ∧ z ≤ 500 := by
  obtain ⟨⟨r0, r1, r2, r3⟩, v1, v2, hl⟩ := run_is e
  unfold spiL; rw [e]
  exact spills_bd (hrs cs ws) h 500 (hok_hrs v1 v2) (fun x hx => by
    have := List.of_mem_zip (a := x.1) (b := x.2) hx
    exact ((vfl_is v1).2 _ this.1).2) r2 r3
theorem spi_len {r h : Int} {cs ws : List Int} (e : runBa r h cs ws = true) : (spiL r h cs ws).length = cs.length := by
  unfold spiL; rw [e]; exact (spills_len _ _ _).trans (hrs_len (run_is e).2.2.2)
theorem runL_len {r h : Int} {cs ws : List Int} (e : runBa r h cs ws = true) : (runL r h cs ws).length = cs.length := by
  unfold runL; rw [e]; exact (gives_len _ _ _).trans (hrs_len (run_is e).2.2.2)
/-- P69 -/
theorem spi_less {r h : Int} {cs ws : List Int} (e : runBa r h cs ws = true) (hr : r + 10 ≤ 20000) : runBa (r + 10) h cs ws = true ∧ (spiL (r + 10) h cs ws).sum ≤ (spiL r h cs ws).sum := by
  obtain ⟨⟨r0, r1, r2, r3⟩, v1, v2, hl⟩ := run_is e
  have e2 := run_at e (r' := r + 10) (h' := h) (by omega) hr r2 (by omega)
  refine ⟨e2, ?_⟩
  unfold spiL
  rw [e, e2]
  simp only [if_true]
  rw [spills_sum, spills_sum]
  exact spill_less (by omega) (hok_hrs v1 v2) r2 r3
/-- P70 -/
theorem short_full {r h : Int} {cs ws : List Int} (e : runBa r h cs ws = true) : runBa r r cs ws = true ∧ shortB r r (hrs cs ws) ≤ shortB r h (hrs cs ws) ∧ ws.sum - cs.sum - h ≤ shortB r h (hrs cs ws) ∧ (runL r h cs ws).sum + shortB r h (hrs cs ws) = ws.sum := by
  obtain ⟨⟨r0, r1, r2, r3⟩, v1, v2, hl⟩ := run_is e
  have a := short_more (Int.le_refl r) (hok_hrs v1 v2) r2 r3 r3 (Int.le_refl r)
  have b := short_least (room := r) (hok_hrs v1 v2) r2 r3
  have c := short_give r (hrs cs ws) h
  rw [want_sum hl] at b c
  rw [come_sum hl] at b
  refine ⟨run_at e r0 r1 r0 (Int.le_refl _), a, b, ?_⟩
  unfold runL; rw [e]
  simp only [if_true]
  rw [gives_sum]; omega
theorem run_sums {r h : Int} {cs ws : List Int} (e : runBa r h cs ws = true) : (0 ≤ cs.sum ∧ cs.sum ≤ 100000) ∧ (0 ≤ ws.sum ∧ ws.sum ≤ 100000) ∧ (∀ z ∈ runL r h cs ws, 0 ≤ z ∧ z ≤ 500) := by
  obtain ⟨⟨r0, r1, r2, r3⟩, v1, v2, hl⟩ := run_is e
  have a := vfl_take v1 cs.length
  have b := vfl_take v2 ws.length
  rw [List.take_of_length_le (Nat.le_refl _)] at a b
  refine ⟨a, b, ?_⟩
  unfold runL; rw [e]
  exact gives_bd (hrs cs ws) h 500 (hok_hrs v1 v2) (fun x hx => by
    have := List.of_mem_zip (a := x.1) (b := x.2) hx
    exact ((vfl_is v2).2 _ this.2).2) r2 r3
/-- P71 -/
theorem lroom_is {n : Int} {cs ws : List Int} (h : ¬ lroomV n cs ws < 0) : ∃ o : Int, lroomV n cs ws = o ∧ n ≤ o ∧ o ≤ 20000 ∧ runBa o n cs ws = true ∧ shortB o n (hrs cs ws) = 0 ∧ (o = n ∨ (runBa (o - 1) n cs ws = true ∧ 0 < shortB (o - 1) n (hrs cs ws))) := by
  unfold lroomV at h ⊢
  cases e : runBa 20000 n cs ws && roomOk n cs ws 20000 with
  | false => rw [e] at h; simp at h
  | true =>
    rw [Bool.and_eq_true] at e
    obtain ⟨e1, e2⟩ := e
    obtain ⟨⟨r0, r1, r2, r3⟩, v1, v2, hl⟩ := run_is e1
    obtain ⟨a, b, c, d⟩ := least_is (roomOk n cs ws) (20000 - n).toNat n (by rw [show n + ((20000 - n).toNat : Int) = 20000 from by omega]; exact e2)
    refine ⟨_, rfl, by simpa using a, by simp; omega, ?_, ?_, ?_⟩
    all_goals simp only [if_true]
    · exact run_at e1 (by omega) (by omega) r2 (by omega)
    · exact of_decide_eq_true c
    · by_cases q : leastN (roomOk n cs ws) n (20000 - n).toNat = n
      · exact .inl q
      · refine .inr ⟨run_at e1 (by omega) (by omega) r2 (by omega), ?_⟩
        have x := d (leastN (roomOk n cs ws) n (20000 - n).toNat - 1) (by omega) (by omega)
        have y := of_decide_eq_false x
        have z := (short_at (run_at e1 (r' := leastN (roomOk n cs ws) n (20000 - n).toNat - 1) (h' := n) (by omega) (by omega) r2 (by omega))).2
        omega
/-- P72 -/
theorem lheld_is {n : Int} {cs ws : List Int} (h : ¬ lheldV n cs ws < 0) : ∃ o : Int, lheldV n cs ws = o ∧ 0 ≤ o ∧ o ≤ n ∧ n ≤ 20000 ∧ runBa n o cs ws = true ∧ shortB n o (hrs cs ws) = 0 ∧ (o = 0 ∨ (runBa n (o - 1) cs ws = true ∧ 0 < shortB n (o - 1) (hrs cs ws))) ∧ vdB cs ws = true ∧ o ≤ deepB 0 (hrs cs ws) := by
  unfold lheldV at h ⊢
  cases e : runBa n n cs ws && heldOk n cs ws n with
  | false => rw [e] at h; simp at h
  | true =>
    rw [Bool.and_eq_true] at e
    obtain ⟨e1, e2⟩ := e
    obtain ⟨⟨r0, r1, r2, r3⟩, v1, v2, hl⟩ := run_is e1
    obtain ⟨a, b, c, d⟩ := least_is (heldOk n cs ws) n.toNat 0 (by rw [show 0 + (n.toNat : Int) = n from by omega]; exact e2)
    have hvd : vdB cs ws = true := by unfold runBa at e1; rw [Bool.and_eq_true] at e1; exact e1.2
    refine ⟨_, rfl, by simpa using a, by simp; omega, r1, ?_, ?_, ?_, hvd, ?_⟩
    all_goals simp only [if_true]
    · exact run_at e1 r0 r1 (by omega) (by omega)
    · exact of_decide_eq_true c
    · by_cases q : leastN (heldOk n cs ws) 0 n.toNat = 0
      · exact .inl q
      · refine .inr ⟨run_at e1 r0 r1 (by omega) (by omega), ?_⟩
        have x := d (leastN (heldOk n cs ws) 0 n.toNat - 1) (by omega) (by omega)
        have y := of_decide_eq_false x
        have z := (short_at (run_at e1 (r' := n) (h' := leastN (heldOk n cs ws) 0 n.toNat - 1) r0 r1 (by omega) (by omega))).2
        omega
    · have dg := deep_ge (hrs cs ws) 0
      by_cases q : deepB 0 (hrs cs ws) ≤ n
      · have x := deep_held (room := n) (hok_hrs v1 v2) q
        by_cases w : deepB 0 (hrs cs ws) < leastN (heldOk n cs ws) 0 n.toNat
        · have y := d (deepB 0 (hrs cs ws)) dg w
          exact absurd x (of_decide_eq_false y)
        · omega
      · omega
/-- P73, P74 -/
theorem deep_is {cs ws : List Int} (e : vdB cs ws = true) (h : deepB 0 (hrs cs ws) ≤ 20000) : (0 ≤ deepB 0 (hrs cs ws)) ∧ runBa (deepB 0 (hrs cs ws)) (deepB 0 (hrs cs ws)) cs ws = true ∧ shortB (deepB 0 (hrs cs ws)) (deepB 0 (hrs cs ws)) (hrs cs ws) = 0 ∧ (deepB 0 (hrs cs ws) = 0 ∨ (runBa (deepB 0 (hrs cs ws) - 1) (deepB 0 (hrs cs ws) - 1) cs ws = true ∧ 0 < shortB (deepB 0 (hrs cs ws) - 1) (deepB 0 (hrs cs ws) - 1) (hrs cs ws))) := by
  obtain ⟨v1, v2, hl⟩ := vd_is e
  have ho := hok_hrs v1 v2
  have dg := deep_ge (hrs cs ws) 0
  have mk : ∀ x : Int, 0 ≤ x → x ≤ 20000 → runBa x x cs ws = true := fun x a b => by unfold runBa; rw [e, vb_iff.2 ⟨a, b, a, Int.le_refl _⟩]; rfl
  refine ⟨dg, mk _ dg h, deep_held ho (Int.le_refl _), ?_⟩
  by_cases q : deepB 0 (hrs cs ws) = 0
  · exact .inl q
  · refine .inr ⟨mk _ (by omega) (by omega), ?_⟩
    have x := deep_iff (room := deepB 0 (hrs cs ws) - 1) (hrs cs ws) 0 ho (Int.le_refl _) (by omega)
    rw [Int.sub_zero] at x
    have y : shortB (deepB 0 (hrs cs ws) - 1) (deepB 0 (hrs cs ws) - 1) (hrs cs ws) ≠ 0 := fun c => by have := x.1 c; omega
    have z := short_nonneg (room := deepB 0 (hrs cs ws) - 1) (hrs cs ws) (deepB 0 (hrs cs ws) - 1) ho (by omega) (by omega)
    omega
theorem deep_room {cs ws : List Int} (e : vdB cs ws = true) (h1 : 1 ≤ deepB 0 (hrs cs ws)) (h : deepB 0 (hrs cs ws) ≤ 20000) : 0 ≤ lheldV (deepB 0 (hrs cs ws)) cs ws ∧ lheldV (deepB 0 (hrs cs ws) - 1) cs ws = -1 := by
  obtain ⟨a, b, c, d⟩ := deep_is e h
  have d := d.resolve_left (by omega)
  constructor
  · unfold lheldV
    rw [b, show heldOk (deepB 0 (hrs cs ws)) cs ws (deepB 0 (hrs cs ws)) = true from decide_eq_true c]
    simp only [Bool.and_self, if_true]
    exact (least_is (heldOk (deepB 0 (hrs cs ws)) cs ws) (deepB 0 (hrs cs ws)).toNat 0 (by rw [show 0 + ((deepB 0 (hrs cs ws)).toNat : Int) = deepB 0 (hrs cs ws) from by omega]; exact decide_eq_true c)).1
  · refine lheld_no ?_
    rw [(short_at d.1).1]
    have := d.2
    omega
/-- P75 -/
theorem sure_is {r h : Int} {cs : List Int} (q : ¬ sureV r h cs < 0) : ∃ o : Int, sureV r h cs = o ∧ 0 ≤ o ∧ o ≤ 500 ∧ runBa r h cs (List.replicate cs.length o) = true ∧ shortB r h (hrs cs (List.replicate cs.length o)) = 0 ∧ (o = 500 ∨ (runBa r h cs (List.replicate cs.length (o + 1)) = true ∧ 0 < shortB r h (hrs cs (List.replicate cs.length (o + 1))))) := by
  unfold sureV at q ⊢
  cases e : vbB r h && vfl cs with
  | false => rw [e] at q; simp at q
  | true =>
    rw [Bool.and_eq_true] at e
    obtain ⟨e1, e2⟩ := e
    have z0 := flow_zero ⟨(vb_iff.1 e1).2.2.1, (vb_iff.1 e1).2.2.2⟩ (cs := cs) (fun c m => ((vfl_is e2).2 c m).1)
    obtain ⟨a, b, c, d⟩ := least_is (fun x => flowOk r h cs (500 - x)) 500 0 (by show flowOk r h cs (500 - (0 + 500)) = true; exact z0)
    simp only [if_true]
    generalize leastN (fun x => flowOk r h cs (500 - x)) 0 500 = m at *
    refine ⟨500 - m, rfl, by omega, by omega, flow_run e1 e2 (by omega) (by omega), of_decide_eq_true c, ?_⟩
    by_cases g : m = 0
    · exact .inl (by omega)
    · refine .inr ⟨flow_run e1 e2 (by omega) (by omega), ?_⟩
      have x := d (m - 1) (by omega) (by omega)
      rw [show (500 : Int) - (m - 1) = 500 - m + 1 from by omega] at x
      have y := of_decide_eq_false x
      have z := (short_at (flow_run (n := 500 - m + 1) e1 e2 (by omega) (by omega))).2
      omega
/-- P76 -/
theorem sums_rise {zs : List Int} {k : Nat} (hk : k + 1 < zs.length) : (sumsF 0 zs).getD (k + 1) 0 = (sumsF 0 zs).getD k 0 + zs.getD (k + 1) 0 := by
  rw [sums_get zs 0 (k + 1) hk, sums_get zs 0 k (by omega), take_sum zs (k + 1) hk]
  omega
theorem sums_ends {zs : List Int} (h : 0 < zs.length) : (sumsF 0 zs).getD 0 0 = zs.getD 0 0 ∧ (sumsF 0 zs).getD (zs.length - 1) 0 = zs.sum := by
  constructor
  · rw [sums_get zs 0 0 h, take_sum zs 0 h]; simp
  · rw [sums_get zs 0 _ (by omega), show zs.length - 1 + 1 = zs.length from by omega, List.take_of_length_le (Nat.le_refl _), Int.zero_add]
theorem sums_bd {zs : List Int} (h : vfl zs = true) {k : Nat} (hk : k < zs.length) : 0 ≤ (sumsF 0 zs).getD k 0 ∧ (sumsF 0 zs).getD k 0 ≤ 100000 := by
  rw [sums_get zs 0 k hk, Int.zero_add]; exact vfl_take h (k + 1)
end Go.Proofs.Ytigapnbpgbfbhac
