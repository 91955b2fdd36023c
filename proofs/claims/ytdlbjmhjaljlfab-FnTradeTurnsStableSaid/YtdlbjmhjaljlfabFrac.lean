/- The operations on fractions, impl's and spec's, return what the plain laws say. Conditions: none but those on MakeFrac's and the inner functions' numbers. -/
import Derived.Test.YtdlbjmhjaljlfabRed
namespace Go.Proofs.Ytdlbjmhjaljlfab
open Go.RowKit

theorem fr_no1 {va vb r : Bool} {x y : Int} (h : va = false) : Ending.returned (.tuple #[.agg #[.int .i64 0, .int .i64 0], .bool false]) = .returned (frV (va && vb && r) x y) := by rw [h]; rfl
theorem fr_no2 {va vb r : Bool} {x y : Int} (h : vb = false) : Ending.returned (.tuple #[.agg #[.int .i64 0, .int .i64 0], .bool false]) = .returned (frV (va && vb && r) x y) := by rw [h]; cases va <;> rfl
theorem fr_yes {va vb r : Bool} {x y : Int} (ha : va = true) (hb : vb = true) : Ending.returned (frV r x y) = .returned (frV (va && vb && r) x y) := by rw [ha, hb]; rfl
theorem bounds {an ad bn bd : Int} (ha : Wsh.vfB an ad = true) (hb : Wsh.vfB bn bd = true) :
    (0 ≤ an * bd ∧ an * bd ≤ 100000000) ∧ (0 ≤ bn * ad ∧ bn * ad ≤ 100000000) ∧ (1 ≤ ad * bd ∧ ad * bd ≤ 100000000) ∧ (0 ≤ an * bn ∧ an * bn ≤ 100000000) := by
  have ka := (Wsh.vfB_iff _ _).1 ha
  have kb := (Wsh.vfB_iff _ _).1 hb
  exact ⟨Wsh.mul_bd (by omega) (by omega) (by omega) (by omega), Wsh.mul_bd (by omega) (by omega) (by omega) (by omega), ⟨Wsh.mul_pos1 (by omega) (by omega), (Wsh.mul_bd (by omega) (by omega) (by omega) (by omega)).2⟩, Wsh.mul_bd (by omega) (by omega) (by omega) (by omega)⟩

set_option maxHeartbeats 1000000 in
/-- impl.AddFrac -/
theorem iAdd (an ad bn bd : Int) (w : World) :
    Calls Try.prog 60 #[.agg #[.int .i64 an, .int .i64 ad], .agg #[.int .i64 bn, .int .i64 bd]] w fun e w' => e = .returned (frV (Wsh.vfB an ad && Wsh.vfB bn bd && Wsh.redB (an * bd + bn * ad) (ad * bd)) (Wsh.rn (an * bd + bn * ad) (ad * bd)) (Wsh.rd (an * bd + bn * ad) (ad * bd))) ∧ Below w.heap.size w w' := by
  cases ha : Wsh.vfB an ad with
  | false =>
    go_enter Try.func60, Try.ntmps60
    go_wp2_with fail
    refine (iValid an ad _).mono ?_
    rintro e w1 ⟨rfl, hb⟩
    have hB : Below w.heap.size w w1 := bel_tr (by go_grown) hb
    obtain ⟨hc, hf⟩ := bcell hb
    have c0 := hc (w.heap.size) 0 (by simp <;> omega)
    have c1 := hc (w.heap.size) 1 (by simp <;> omega)
    have c2 := hc (w.heap.size + 1) 0 (by simp <;> omega)
    have c3 := hc (w.heap.size + 1) 1 (by simp <;> omega)
    have c4 := hc (w.heap.size + 2) 0 (by simp <;> omega)
    have c5 := hc (w.heap.size + 2) 1 (by simp <;> omega)
    have f0 := hf (w.heap.size + 2) 0 (by simp <;> omega)
    have f1 := hf (w.heap.size + 2) 1 (by simp <;> omega)
    simp [go_sem] at c0 c1 c2 c3 c4 c5 f0 f1
    clear hc hf hb
    go_wp2_with fail
    refine bodyPost_ret (v := .tuple #[.agg #[.int .i64 0, .int .i64 0], .bool false]) (by simp [results, Try.results60, go_sem, c4, c5]) rfl ⟨fr_no1 rfl, by go_grown⟩
  | true =>
    cases hb0 : Wsh.vfB bn bd with
    | false =>
      go_enter Try.func60, Try.ntmps60
      go_wp2_with fail
      refine (iValid an ad _).mono ?_
      rintro e w1 ⟨rfl, hb⟩
      have hB : Below w.heap.size w w1 := bel_tr (by go_grown) hb
      have hz := hb.size
      simp at hz
      obtain ⟨hc, hf⟩ := bcell hb
      have c0 := hc (w.heap.size) 0 (by simp <;> omega)
      have c1 := hc (w.heap.size) 1 (by simp <;> omega)
      have c2 := hc (w.heap.size + 1) 0 (by simp <;> omega)
      have c3 := hc (w.heap.size + 1) 1 (by simp <;> omega)
      have c4 := hc (w.heap.size + 2) 0 (by simp <;> omega)
      have c5 := hc (w.heap.size + 2) 1 (by simp <;> omega)
      have f0 := hf (w.heap.size + 2) 0 (by simp <;> omega)
      have f1 := hf (w.heap.size + 2) 1 (by simp <;> omega)
      simp [go_sem] at c0 c1 c2 c3 c4 c5 f0 f1
      clear hc hf hb
      go_wp2_with fail
      refine (iValid bn bd _).mono ?_
      rintro e w2 ⟨rfl, hb⟩
      have hB2 : Below w.heap.size w w2 := bel_tr hB hb
      obtain ⟨hc, hf⟩ := bcell hb
      have d0 := (hc (w.heap.size) 0 (by omega)).trans c0
      have d1 := (hc (w.heap.size) 1 (by omega)).trans c1
      have d2 := (hc (w.heap.size + 1) 0 (by omega)).trans c2
      have d3 := (hc (w.heap.size + 1) 1 (by omega)).trans c3
      have d4 := (hc (w.heap.size + 2) 0 (by omega)).trans c4
      have d5 := (hc (w.heap.size + 2) 1 (by omega)).trans c5
      have g0 := (hf (w.heap.size + 2) 0 (by omega)).trans f0
      have g1 := (hf (w.heap.size + 2) 1 (by omega)).trans f1
      clear hc hf hb
      go_wp2_with fail
      refine bodyPost_ret (v := .tuple #[.agg #[.int .i64 0, .int .i64 0], .bool false]) (by simp [results, Try.results60, go_sem, d4, d5]) rfl ⟨fr_no2 rfl, by go_grown⟩
    | true =>
      obtain ⟨⟨p1, p2⟩, ⟨p3, p4⟩, ⟨p5, p6⟩, p7, p8⟩ := bounds ha hb0
      go_enter Try.func60, Try.ntmps60
      go_wp2_with fail
      refine (iValid an ad _).mono ?_
      rintro e w1 ⟨rfl, hb⟩
      have hB : Below w.heap.size w w1 := bel_tr (by go_grown) hb
      have hz := hb.size
      simp at hz
      obtain ⟨hc, hf⟩ := bcell hb
      have c0 := hc (w.heap.size) 0 (by simp <;> omega)
      have c1 := hc (w.heap.size) 1 (by simp <;> omega)
      have c2 := hc (w.heap.size + 1) 0 (by simp <;> omega)
      have c3 := hc (w.heap.size + 1) 1 (by simp <;> omega)
      have c4 := hc (w.heap.size + 2) 0 (by simp <;> omega)
      have c5 := hc (w.heap.size + 2) 1 (by simp <;> omega)
      have f0 := hf (w.heap.size + 2) 0 (by simp <;> omega)
      have f1 := hf (w.heap.size + 2) 1 (by simp <;> omega)
      simp [go_sem] at c0 c1 c2 c3 c4 c5 f0 f1
      clear hc hf hb
      go_wp2_with fail
      refine (iValid bn bd _).mono ?_
      rintro e w2 ⟨rfl, hb⟩
      have hB2 : Below w.heap.size w w2 := bel_tr hB hb
      have hz2 := hb.size
      obtain ⟨hc, hf⟩ := bcell hb
      have d0 := (hc (w.heap.size) 0 (by omega)).trans c0
      have d1 := (hc (w.heap.size) 1 (by omega)).trans c1
      have d2 := (hc (w.heap.size + 1) 0 (by omega)).trans c2
      have d3 := (hc (w.heap.size + 1) 1 (by omega)).trans c3
      have d4 := (hc (w.heap.size + 2) 0 (by omega)).trans c4
      have d5 := (hc (w.heap.size + 2) 1 (by omega)).trans c5
      have g0 := (hf (w.heap.size + 2) 0 (by omega)).trans f0
      have g1 := (hf (w.heap.size + 2) 1 (by omega)).trans f1
      clear hc hf hb
      clear c0 c1 c2 c3 c4 c5 f0 f1
      go_wp2_with fail
      refine (ired (an * bd + bn * ad) (ad * bd) _ (by omega) (by omega)).mono ?_
      rintro e w3 ⟨rfl, hb⟩
      have hB3 : Below w.heap.size w w3 := bel_tr hB2 hb
      obtain ⟨hc, hf⟩ := bcell hb
      have c4 := (hc (w.heap.size + 2) 0 (by omega)).trans d4
      have c5 := (hc (w.heap.size + 2) 1 (by omega)).trans d5
      have f0 := (hf (w.heap.size + 2) 0 (by omega)).trans g0
      have f1 := (hf (w.heap.size + 2) 1 (by omega)).trans g1
      clear hc hf hb
      clear d0 d1 d2 d3 d4 d5 g0 g1
      go_wp2_with fail
      refine bodyPost_ret (v := .tuple #[.agg #[.int .i64 (Wsh.qn (Wsh.redB (an * bd + bn * ad) (ad * bd)) (Wsh.rn (an * bd + bn * ad) (ad * bd))), .int .i64 (Wsh.qn (Wsh.redB (an * bd + bn * ad) (ad * bd)) (Wsh.rd (an * bd + bn * ad) (ad * bd)))], .bool (Wsh.redB (an * bd + bn * ad) (ad * bd))]) (by simp [results, Try.results60, go_sem, c4, c5]) rfl ⟨fr_yes rfl rfl, by go_grown⟩

set_option maxHeartbeats 1000000 in
/-- impl.SubFrac -/
theorem iSub (an ad bn bd : Int) (w : World) :
    Calls Try.prog 95 #[.agg #[.int .i64 an, .int .i64 ad], .agg #[.int .i64 bn, .int .i64 bd]] w fun e w' => e = .returned (frV (Wsh.vfB an ad && Wsh.vfB bn bd && Wsh.redB (an * bd - bn * ad) (ad * bd)) (Wsh.rn (an * bd - bn * ad) (ad * bd)) (Wsh.rd (an * bd - bn * ad) (ad * bd))) ∧ Below w.heap.size w w' := by
  cases ha : Wsh.vfB an ad with
  | false =>
    go_enter Try.func95, Try.ntmps95
    go_wp2_with fail
    refine (iValid an ad _).mono ?_
    rintro e w1 ⟨rfl, hb⟩
    have hB : Below w.heap.size w w1 := bel_tr (by go_grown) hb
    obtain ⟨hc, hf⟩ := bcell hb
    have c0 := hc (w.heap.size) 0 (by simp <;> omega)
    have c1 := hc (w.heap.size) 1 (by simp <;> omega)
    have c2 := hc (w.heap.size + 1) 0 (by simp <;> omega)
    have c3 := hc (w.heap.size + 1) 1 (by simp <;> omega)
    have c4 := hc (w.heap.size + 2) 0 (by simp <;> omega)
    have c5 := hc (w.heap.size + 2) 1 (by simp <;> omega)
    have f0 := hf (w.heap.size + 2) 0 (by simp <;> omega)
    have f1 := hf (w.heap.size + 2) 1 (by simp <;> omega)
    simp [go_sem] at c0 c1 c2 c3 c4 c5 f0 f1
    clear hc hf hb
    go_wp2_with fail
    refine bodyPost_ret (v := .tuple #[.agg #[.int .i64 0, .int .i64 0], .bool false]) (by simp [results, Try.results95, go_sem, c4, c5]) rfl ⟨fr_no1 rfl, by go_grown⟩
  | true =>
    cases hb0 : Wsh.vfB bn bd with
    | false =>
      go_enter Try.func95, Try.ntmps95
      go_wp2_with fail
      refine (iValid an ad _).mono ?_
      rintro e w1 ⟨rfl, hb⟩
      have hB : Below w.heap.size w w1 := bel_tr (by go_grown) hb
      have hz := hb.size
      simp at hz
      obtain ⟨hc, hf⟩ := bcell hb
      have c0 := hc (w.heap.size) 0 (by simp <;> omega)
      have c1 := hc (w.heap.size) 1 (by simp <;> omega)
      have c2 := hc (w.heap.size + 1) 0 (by simp <;> omega)
      have c3 := hc (w.heap.size + 1) 1 (by simp <;> omega)
      have c4 := hc (w.heap.size + 2) 0 (by simp <;> omega)
      have c5 := hc (w.heap.size + 2) 1 (by simp <;> omega)
      have f0 := hf (w.heap.size + 2) 0 (by simp <;> omega)
      have f1 := hf (w.heap.size + 2) 1 (by simp <;> omega)
      simp [go_sem] at c0 c1 c2 c3 c4 c5 f0 f1
      clear hc hf hb
      go_wp2_with fail
      refine (iValid bn bd _).mono ?_
      rintro e w2 ⟨rfl, hb⟩
      have hB2 : Below w.heap.size w w2 := bel_tr hB hb
      obtain ⟨hc, hf⟩ := bcell hb
      have d0 := (hc (w.heap.size) 0 (by omega)).trans c0
      have d1 := (hc (w.heap.size) 1 (by omega)).trans c1
      have d2 := (hc (w.heap.size + 1) 0 (by omega)).trans c2
      have d3 := (hc (w.heap.size + 1) 1 (by omega)).trans c3
      have d4 := (hc (w.heap.size + 2) 0 (by omega)).trans c4
      have d5 := (hc (w.heap.size + 2) 1 (by omega)).trans c5
      have g0 := (hf (w.heap.size + 2) 0 (by omega)).trans f0
      have g1 := (hf (w.heap.size + 2) 1 (by omega)).trans f1
      clear hc hf hb
      go_wp2_with fail
      refine bodyPost_ret (v := .tuple #[.agg #[.int .i64 0, .int .i64 0], .bool false]) (by simp [results, Try.results95, go_sem, d4, d5]) rfl ⟨fr_no2 rfl, by go_grown⟩
    | true =>
      obtain ⟨⟨p1, p2⟩, ⟨p3, p4⟩, ⟨p5, p6⟩, p7, p8⟩ := bounds ha hb0
      go_enter Try.func95, Try.ntmps95
      go_wp2_with fail
      refine (iValid an ad _).mono ?_
      rintro e w1 ⟨rfl, hb⟩
      have hB : Below w.heap.size w w1 := bel_tr (by go_grown) hb
      have hz := hb.size
      simp at hz
      obtain ⟨hc, hf⟩ := bcell hb
      have c0 := hc (w.heap.size) 0 (by simp <;> omega)
      have c1 := hc (w.heap.size) 1 (by simp <;> omega)
      have c2 := hc (w.heap.size + 1) 0 (by simp <;> omega)
      have c3 := hc (w.heap.size + 1) 1 (by simp <;> omega)
      have c4 := hc (w.heap.size + 2) 0 (by simp <;> omega)
      have c5 := hc (w.heap.size + 2) 1 (by simp <;> omega)
      have f0 := hf (w.heap.size + 2) 0 (by simp <;> omega)
      have f1 := hf (w.heap.size + 2) 1 (by simp <;> omega)
      simp [go_sem] at c0 c1 c2 c3 c4 c5 f0 f1
      clear hc hf hb
      go_wp2_with fail
      refine (iValid bn bd _).mono ?_
      rintro e w2 ⟨rfl, hb⟩
      have hB2 : Below w.heap.size w w2 := bel_tr hB hb
      have hz2 := hb.size
      obtain ⟨hc, hf⟩ := bcell hb
      have d0 := (hc (w.heap.size) 0 (by omega)).trans c0
      have d1 := (hc (w.heap.size) 1 (by omega)).trans c1
      have d2 := (hc (w.heap.size + 1) 0 (by omega)).trans c2
      have d3 := (hc (w.heap.size + 1) 1 (by omega)).trans c3
      have d4 := (hc (w.heap.size + 2) 0 (by omega)).trans c4
      have d5 := (hc (w.heap.size + 2) 1 (by omega)).trans c5
      have g0 := (hf (w.heap.size + 2) 0 (by omega)).trans f0
      have g1 := (hf (w.heap.size + 2) 1 (by omega)).trans f1
      clear hc hf hb
      clear c0 c1 c2 c3 c4 c5 f0 f1
      go_wp2_with fail
      refine (ired (an * bd - bn * ad) (ad * bd) _ (by omega) (by omega)).mono ?_
      rintro e w3 ⟨rfl, hb⟩
      have hB3 : Below w.heap.size w w3 := bel_tr hB2 hb
      obtain ⟨hc, hf⟩ := bcell hb
      have c4 := (hc (w.heap.size + 2) 0 (by omega)).trans d4
      have c5 := (hc (w.heap.size + 2) 1 (by omega)).trans d5
      have f0 := (hf (w.heap.size + 2) 0 (by omega)).trans g0
      have f1 := (hf (w.heap.size + 2) 1 (by omega)).trans g1
      clear hc hf hb
      clear d0 d1 d2 d3 d4 d5 g0 g1
      go_wp2_with fail
      refine bodyPost_ret (v := .tuple #[.agg #[.int .i64 (Wsh.qn (Wsh.redB (an * bd - bn * ad) (ad * bd)) (Wsh.rn (an * bd - bn * ad) (ad * bd))), .int .i64 (Wsh.qn (Wsh.redB (an * bd - bn * ad) (ad * bd)) (Wsh.rd (an * bd - bn * ad) (ad * bd)))], .bool (Wsh.redB (an * bd - bn * ad) (ad * bd))]) (by simp [results, Try.results95, go_sem, c4, c5]) rfl ⟨fr_yes rfl rfl, by go_grown⟩

/-- spec.compareFrac -/
theorem scompare (an ad bn bd : Int) (w : World) (ha : Wsh.vfB an ad = true) (hb : Wsh.vfB bn bd = true) :
    Calls Try.prog 94 #[.agg #[.int .i64 an, .int .i64 ad], .agg #[.int .i64 bn, .int .i64 bd]] w fun e w' => e = .returned (.int .i64 (Wsh.cmpI (an * bd) (bn * ad))) ∧ Below w.heap.size w w' := by
  obtain ⟨⟨p1, p2⟩, ⟨p3, p4⟩, ⟨p5, p6⟩, p7, p8⟩ := bounds ha hb
  clear ha hb
  by_cases h1 : an * bd < bn * ad
  · go_enter Try.func94, Try.ntmps94
    go_wp2
    go_ret
    exact ⟨ret_int (Wsh.cmpI_lt h1).symm, by go_grown⟩
  · by_cases h2 : bn * ad < an * bd
    · go_enter Try.func94, Try.ntmps94
      go_wp2
      go_ret
      exact ⟨ret_int (Wsh.cmpI_gt h2).symm, by go_grown⟩
    · go_enter Try.func94, Try.ntmps94
      go_wp2
      go_ret
      exact ⟨ret_int (Wsh.cmpI_eq (by omega)).symm, by go_grown⟩

/-- spec.addFrac -/
theorem sadd (an ad bn bd : Int) (w : World) (ha : Wsh.vfB an ad = true) (hb : Wsh.vfB bn bd = true) :
    Calls Try.prog 81 #[.agg #[.int .i64 an, .int .i64 ad], .agg #[.int .i64 bn, .int .i64 bd]] w fun e w' => e = .returned (frV (Wsh.redB (an * bd + bn * ad) (ad * bd)) (Wsh.rn (an * bd + bn * ad) (ad * bd)) (Wsh.rd (an * bd + bn * ad) (ad * bd))) ∧ Below w.heap.size w w' := by
  obtain ⟨⟨p1, p2⟩, ⟨p3, p4⟩, ⟨p5, p6⟩, p7, p8⟩ := bounds ha hb
  clear ha hb
  go_enter Try.func81, Try.ntmps81
  go_wp2_with fail
  refine (sred (an * bd + bn * ad) (ad * bd) _ (by omega) (by omega) (by omega) (by omega)).mono ?_
  rintro e w1 ⟨rfl, hb⟩
  have hB : Below w.heap.size w w1 := bel_tr (by go_grown) hb
  obtain ⟨hc, hf⟩ := bcell hb
  have c0 := hc (w.heap.size + 2) 0 (by simp <;> omega)
  have c1 := hc (w.heap.size + 2) 1 (by simp <;> omega)
  have f0 := hf (w.heap.size + 2) 0 (by simp <;> omega)
  have f1 := hf (w.heap.size + 2) 1 (by simp <;> omega)
  simp [go_sem] at c0 c1 f0 f1
  clear hc hf hb
  go_wp2_with fail
  refine bodyPost_ret (v := .tuple #[.agg #[.int .i64 (Wsh.qn (Wsh.redB (an * bd + bn * ad) (ad * bd)) (Wsh.rn (an * bd + bn * ad) (ad * bd))), .int .i64 (Wsh.qn (Wsh.redB (an * bd + bn * ad) (ad * bd)) (Wsh.rd (an * bd + bn * ad) (ad * bd)))], .bool (Wsh.redB (an * bd + bn * ad) (ad * bd))]) (by simp [results, Try.results81, go_sem, c0, c1]) rfl ⟨rfl, by go_grown⟩

set_option maxHeartbeats 400000 in
/-- spec.subFrac -/
theorem ssub (an ad bn bd : Int) (w : World) (ha : Wsh.vfB an ad = true) (hb : Wsh.vfB bn bd = true) :
    Calls Try.prog 82 #[.agg #[.int .i64 an, .int .i64 ad], .agg #[.int .i64 bn, .int .i64 bd]] w fun e w' => e = .returned (frV (Wsh.redB (an * bd - bn * ad) (ad * bd)) (Wsh.rn (an * bd - bn * ad) (ad * bd)) (Wsh.rd (an * bd - bn * ad) (ad * bd))) ∧ Below w.heap.size w w' := by
  obtain ⟨⟨p1, p2⟩, ⟨p3, p4⟩, ⟨p5, p6⟩, p7, p8⟩ := bounds ha hb
  by_cases h1 : an * bd < bn * ad
  · have hm : Wsh.cmpI (an * bd) (bn * ad) < 0 := by rw [Wsh.cmpI_lt h1]; decide
    go_enter Try.func82, Try.ntmps82
    go_wp2_with fail
    refine (scompare an ad bn bd _ ha hb).mono ?_
    rintro e w1 ⟨rfl, hb⟩
    have hB : Below w.heap.size w w1 := bel_tr (by go_grown) hb
    obtain ⟨hc, hf⟩ := bcell hb
    have c0 := hc (w.heap.size + 2) 0 (by simp <;> omega)
    have c1 := hc (w.heap.size + 2) 1 (by simp <;> omega)
    have f0 := hf (w.heap.size + 2) 0 (by simp <;> omega)
    have f1 := hf (w.heap.size + 2) 1 (by simp <;> omega)
    simp [go_sem] at c0 c1 f0 f1
    clear hc hf hb
    go_wp2_with fail
    refine bodyPost_ret (v := .tuple #[.agg #[.int .i64 0, .int .i64 0], .bool false]) (by simp [results, Try.results82, go_sem, c0, c1]) rfl ⟨ret_frV (Wsh.redB_no (by omega)) rfl rfl, by go_grown⟩
  · have hm : ¬ Wsh.cmpI (an * bd) (bn * ad) < 0 := by rw [Wsh.cmpI_nlt h1]; simp
    go_enter Try.func82, Try.ntmps82
    go_wp2_with fail
    refine (scompare an ad bn bd _ ha hb).mono ?_
    rintro e w1 ⟨rfl, hb⟩
    have hB : Below w.heap.size w w1 := bel_tr (by go_grown) hb
    have hz := hb.size
    simp at hz
    obtain ⟨hc, hf⟩ := bcell hb
    have c0 := hc (w.heap.size) 0 (by simp <;> omega)
    have c1 := hc (w.heap.size) 1 (by simp <;> omega)
    have c2 := hc (w.heap.size + 1) 0 (by simp <;> omega)
    have c3 := hc (w.heap.size + 1) 1 (by simp <;> omega)
    have c4 := hc (w.heap.size + 2) 0 (by simp <;> omega)
    have c5 := hc (w.heap.size + 2) 1 (by simp <;> omega)
    have f0 := hf (w.heap.size + 2) 0 (by simp <;> omega)
    have f1 := hf (w.heap.size + 2) 1 (by simp <;> omega)
    simp [go_sem] at c0 c1 c2 c3 c4 c5 f0 f1
    clear hc hf hb
    go_wp2_with fail
    refine (sred (an * bd - bn * ad) (ad * bd) _ (by omega) (by omega) (by omega) (by omega)).mono ?_
    rintro e w2 ⟨rfl, hb⟩
    have hB2 : Below w.heap.size w w2 := bel_tr hB hb
    obtain ⟨hc, hf⟩ := bcell hb
    have d4 := (hc (w.heap.size + 2) 0 (by omega)).trans c4
    have d5 := (hc (w.heap.size + 2) 1 (by omega)).trans c5
    have g0 := (hf (w.heap.size + 2) 0 (by omega)).trans f0
    have g1 := (hf (w.heap.size + 2) 1 (by omega)).trans f1
    clear hc hf hb
    clear c0 c1 c2 c3 c4 c5 f0 f1
    go_wp2_with fail
    refine bodyPost_ret (v := .tuple #[.agg #[.int .i64 (Wsh.qn (Wsh.redB (an * bd - bn * ad) (ad * bd)) (Wsh.rn (an * bd - bn * ad) (ad * bd))), .int .i64 (Wsh.qn (Wsh.redB (an * bd - bn * ad) (ad * bd)) (Wsh.rd (an * bd - bn * ad) (ad * bd)))], .bool (Wsh.redB (an * bd - bn * ad) (ad * bd))]) (by simp [results, Try.results82, go_sem, d4, d5]) rfl ⟨rfl, by go_grown⟩

end Go.Proofs.Ytdlbjmhjaljlfab
