/- MakeFrac and PartOf, impl's and spec's, and the laws' own copies and comparisons of fractions. No condition. -/
import Derived.Test.YtihogilepflegabFrac
namespace Go.Proofs.Ytihogilepflegab
open Go.RowKit


set_option maxHeartbeats 400000 in
/-- impl.MakeFrac -/
theorem iMake (n d : Int) (w : World) :
    Calls Try.prog 16 #[.int .i64 n, .int .i64 d] w fun e w' => e = .returned (frV (Wsh.mkB d && Wsh.redB n d) (Wsh.rn n d) (Wsh.rd n d)) ∧ Below w.heap.size w w' := by
  by_cases h1 : d < 1
  · go_enter Try.func16, Try.ntmps16
    go_wp2
    go_returns
    exact ⟨by rw [Wsh.mkB_no (d := d) (by omega)]; rfl, by go_grown⟩
  · by_cases h2 : 1000000 < d
    · go_enter Try.func16, Try.ntmps16
      go_wp2
      go_returns
      exact ⟨by rw [Wsh.mkB_no (d := d) (by omega)]; rfl, by go_grown⟩
    · go_enter Try.func16, Try.ntmps16
      go_wp2_with fail
      refine (ired n d _ (by omega) (by omega)).mono ?_
      rintro e w1 ⟨rfl, hb⟩
      have hB : Below w.heap.size w w1 := bel_tr (by go_grown) hb
      obtain ⟨hc, hf⟩ := bcell hb
      have c0 := hc (w.heap.size) 0 (by simp <;> omega)
      have c1 := hc (w.heap.size) 1 (by simp <;> omega)
      have f0 := hf (w.heap.size) 0 (by simp <;> omega)
      have f1 := hf (w.heap.size) 1 (by simp <;> omega)
      simp [go_sem] at c0 c1 f0 f1
      clear hc hf hb
      go_wp2_with fail
      refine bodyPost_ret (v := .tuple #[.agg #[.int .i64 (Wsh.qn (Wsh.redB n d) (Wsh.rn n d)), .int .i64 (Wsh.qn (Wsh.redB n d) (Wsh.rd n d))], .bool (Wsh.redB n d)]) (by simp [results, Try.results16, go_sem, c0, c1]) rfl ⟨by rw [Wsh.mkB_yes (d := d) (by omega)]; rfl, by go_grown⟩

set_option maxHeartbeats 400000 in
/-- spec.MakeFrac -/
theorem sMake (n d : Int) (w : World) :
    Calls Try.prog 17 #[.int .i64 n, .int .i64 d] w fun e w' => e = .returned (frV (Wsh.mkB d && Wsh.redB n d) (Wsh.rn n d) (Wsh.rd n d)) ∧ Below w.heap.size w w' := by
  by_cases h1 : d < 1 ∨ 1000000 < d
  · go_enter Try.func17, Try.ntmps17
    go_wp2_with fail
    refine (inRange_no d 1 1000000 _ h1).mono ?_
    rintro e w1 ⟨rfl, rfl⟩
    go_wp2_with fail
    go_returns
    exact ⟨by rw [Wsh.mkB_no (d := d) (by omega)]; rfl, by go_grown⟩
  · by_cases h2 : n < 0 ∨ d < n
    · have hr := Wsh.redB_no (n := n) (d := d) (by omega)
      have HR := Lib.hid hr
      clear hr
      go_enter Try.func17, Try.ntmps17
      go_wp2_with fail
      refine (inRange_yes d 1 1000000 _ (by omega) (by omega)).mono ?_
      rintro e w1 ⟨rfl, rfl⟩
      go_wp2_with fail
      refine (inRange_no n 0 d _ h2).mono ?_
      rintro e w1 ⟨rfl, rfl⟩
      go_wp2_with fail
      go_returns
      exact ⟨by rw [HR.out, Bool.and_false]; rfl, by go_grown⟩
    · go_enter Try.func17, Try.ntmps17
      go_wp2_with fail
      refine (inRange_yes d 1 1000000 _ (by omega) (by omega)).mono ?_
      rintro e w1 ⟨rfl, rfl⟩
      go_wp2_with fail
      refine (inRange_yes n 0 d _ (by omega) (by omega)).mono ?_
      rintro e w1 ⟨rfl, rfl⟩
      go_wp2_with fail
      refine (sred n d _ (by omega) (by omega) (by omega) (by omega)).mono ?_
      rintro e w1 ⟨rfl, hb⟩
      have hB : Below w.heap.size w w1 := bel_tr (by go_grown) hb
      obtain ⟨hc, hf⟩ := bcell hb
      have c0 := hc (w.heap.size) 0 (by simp <;> omega)
      have c1 := hc (w.heap.size) 1 (by simp <;> omega)
      have f0 := hf (w.heap.size) 0 (by simp <;> omega)
      have f1 := hf (w.heap.size) 1 (by simp <;> omega)
      simp [go_sem] at c0 c1 f0 f1
      clear hc hf hb
      go_wp2_with fail
      refine bodyPost_ret (v := .tuple #[.agg #[.int .i64 (Wsh.qn (Wsh.redB n d) (Wsh.rn n d)), .int .i64 (Wsh.qn (Wsh.redB n d) (Wsh.rd n d))], .bool (Wsh.redB n d)]) (by simp [results, Try.results17, go_sem, c0, c1]) rfl ⟨by rw [Wsh.mkB_yes (d := d) (by omega)]; rfl, by go_grown⟩

set_option maxHeartbeats 400000 in
/-- impl.PartOf -/
theorem iPart (n x d : Int) (w : World) :
    Calls Try.prog 30 #[.int .i64 n, .agg #[.int .i64 x, .int .i64 d]] w fun e w' => e = .returned (.int .i64 (Wsh.partI n x d)) ∧ Below w.heap.size w w' := by
  by_cases h1 : n < 0
  · go_enter Try.func30, Try.ntmps30
    go_wp2_with fail
    go_ret
    exact ⟨ret_int (Wsh.partI_no1 x d (by omega)).symm, by go_grown⟩
  · by_cases h2 : 1000000 < n
    · go_enter Try.func30, Try.ntmps30
      go_wp2_with fail
      go_ret
      exact ⟨ret_int (Wsh.partI_no1 x d (by omega)).symm, by go_grown⟩
    · cases hv : Wsh.vfB x d with
      | false =>
        have HQ := Lib.hid (Wsh.partI_no2 n hv)
        go_enter Try.func30, Try.ntmps30
        go_wp2_with fail
        refine (iValid x d _).mono ?_
        rintro e w1 ⟨rfl, hb⟩
        have hB : Below w.heap.size w w1 := bel_tr (by go_grown) hb
        go_wp2_with fail
        go_ret
        exact ⟨ret_int HQ.out.symm, hB⟩
      | true =>
        have HQ := Lib.hid (Wsh.partI_yes (n := n) (by omega) hv)
        have kv := (Wsh.vfB_iff _ _).1 hv
        obtain ⟨k1, k2, k3, k4, k5⟩ := kv
        clear k5
        have m1 : 0 ≤ n * x := Int.mul_nonneg (by omega) (by omega)
        have m2 : n * x ≤ 10000000000 := Wsh.mul_bd2 (by omega) (by omega) (by omega) (by omega)
        go_enter Try.func30, Try.ntmps30
        go_wp2_with fail
        refine (iValid x d _).mono ?_
        rintro e w1 ⟨rfl, hb⟩
        have hB : Below w.heap.size w w1 := bel_tr (by go_grown) hb
        obtain ⟨hc, hf⟩ := bcell hb
        have c0 := hc (w.heap.size) 0 (by simp <;> omega)
        have c1 := hc (w.heap.size) 1 (by simp <;> omega)
        simp [go_sem] at c0 c1
        clear hc hf hb
        go_wp2_with fail
        go_ret
        exact ⟨ret_int HQ.out.symm, hB⟩

set_option maxHeartbeats 400000 in
/-- spec.PartOf -/
theorem sPart (n x d : Int) (w : World) :
    Calls Try.prog 31 #[.int .i64 n, .agg #[.int .i64 x, .int .i64 d]] w fun e w' => e = .returned (.int .i64 (Wsh.partI n x d)) ∧ Below w.heap.size w w' := by
  by_cases h1 : n < 0 ∨ 1000000 < n
  · go_enter Try.func31, Try.ntmps31
    go_wp2_with fail
    refine (inRange_no n 0 1000000 _ h1).mono ?_
    rintro e w1 ⟨rfl, rfl⟩
    go_wp2_with fail
    go_ret
    exact ⟨ret_int (Wsh.partI_no1 x d (by omega)).symm, by go_grown⟩
  · cases hv : Wsh.vfB x d with
    | false =>
      have HQ := Lib.hid (Wsh.partI_no2 n hv)
      go_enter Try.func31, Try.ntmps31
      go_wp2_with fail
      refine (inRange_yes n 0 1000000 _ (by omega) (by omega)).mono ?_
      rintro e w1 ⟨rfl, rfl⟩
      go_wp2_with fail
      refine (svalid x d _).mono ?_
      rintro e w1 ⟨rfl, hb⟩
      have hB : Below w.heap.size w w1 := bel_tr (by go_grown) hb
      go_wp2_with fail
      go_ret
      exact ⟨ret_int HQ.out.symm, hB⟩
    | true =>
      have HQ := Lib.hid (Wsh.partI_yes (n := n) (by omega) hv)
      have kv := (Wsh.vfB_iff _ _).1 hv
      obtain ⟨k1, k2, k3, k4, k5⟩ := kv
      clear k5
      have m1 : 0 ≤ n * x := Int.mul_nonneg (by omega) (by omega)
      have m2 : n * x ≤ 10000000000 := Wsh.mul_bd2 (by omega) (by omega) (by omega) (by omega)
      go_enter Try.func31, Try.ntmps31
      go_wp2_with fail
      refine (inRange_yes n 0 1000000 _ (by omega) (by omega)).mono ?_
      rintro e w1 ⟨rfl, rfl⟩
      go_wp2_with fail
      refine (svalid x d _).mono ?_
      rintro e w1 ⟨rfl, hb⟩
      have hB : Below w.heap.size w w1 := bel_tr (by go_grown) hb
      obtain ⟨hc, hf⟩ := bcell hb
      have c0 := hc (w.heap.size) 0 (by simp <;> omega)
      have c1 := hc (w.heap.size) 1 (by simp <;> omega)
      simp [go_sem] at c0 c1
      clear hc hf hb
      go_wp2_with fail
      go_ret
      exact ⟨ret_int HQ.out.symm, hB⟩
end Go.Proofs.Ytihogilepflegab
