/- impl.ValidFrac and spec.ValidFrac answer whether a fraction is valid; no condition. -/
import Derived.Test.YtdlbjmhjaljlfabGcd
import Derived.Handy
namespace Go.Proofs.Ytdlbjmhjaljlfab
open Go.RowKit

theorem vf_no {n d : Int} (h : ¬ (1 ≤ d ∧ d ≤ 10000 ∧ 0 ≤ n ∧ n ≤ d)) : Wsh.vfB n d = false := by
  rw [Bool.eq_false_iff]; intro k; rw [Wsh.vfB_iff] at k; exact h ⟨k.1, k.2.1, k.2.2.1, k.2.2.2.1⟩
theorem vf_gcd {n d : Int} (h : 1 ≤ d ∧ d ≤ 10000 ∧ 0 ≤ n ∧ n ≤ d) : ((Int.gcd n d : Int) == 1) = Wsh.vfB n d := by
  rw [Bool.eq_iff_iff, Wsh.vfB_iff]; simp; omega

/-- impl.ValidFrac -/
theorem iValid (n d : Int) (w : World) :
    Calls Try.prog 66 #[.agg #[.int .i64 n, .int .i64 d]] w fun e w' => e = .returned (.bool (Wsh.vfB n d)) ∧ Below w.heap.size w w' := by
  by_cases h1 : d < 1
  · go_enter Try.func66, Try.ntmps66
    go_wp2
    go_ret
    exact ⟨ret_bool (vf_no (by omega)).symm, by go_grown⟩
  · by_cases h2 : 10000 < d
    · go_enter Try.func66, Try.ntmps66
      go_wp2
      go_ret
      exact ⟨ret_bool (vf_no (by omega)).symm, by go_grown⟩
    · by_cases h3 : n < 0
      · go_enter Try.func66, Try.ntmps66
        go_wp2
        go_ret
        exact ⟨ret_bool (vf_no (by omega)).symm, by go_grown⟩
      · by_cases h4 : d < n
        · go_enter Try.func66, Try.ntmps66
          go_wp2
          go_ret
          exact ⟨ret_bool (vf_no (by omega)).symm, by go_grown⟩
        · have hv := vf_gcd (n := n) (d := d) (by omega)
          have HV := Lib.hid hv
          clear hv
          go_enter Try.func66, Try.ntmps66
          go_wp2_with fail
          refine (igcd n d _ (by omega) (by omega) (by omega) (by omega)).mono ?_
          rintro e w' ⟨rfl, rfl⟩
          go_wp2_with fail
          go_ret
          exact ⟨ret_bool HV.out, by go_grown⟩

/-- spec.validFrac -/
theorem svalid (n d : Int) (w : World) :
    Calls Try.prog 51 #[.agg #[.int .i64 n, .int .i64 d]] w fun e w' => e = .returned (.bool (Wsh.vfB n d)) ∧ Below w.heap.size w w' := by
  by_cases h1 : d < 1 ∨ 10000 < d
  · go_enter Try.func51, Try.ntmps51
    go_wp2_with fail
    refine (inRange_no d 1 10000 _ h1).mono ?_
    rintro e w' ⟨rfl, rfl⟩
    go_wp2_with fail
    go_ret
    exact ⟨ret_bool (vf_no (by omega)).symm, by go_grown⟩
  · by_cases h2 : n < 0 ∨ d < n
    · go_enter Try.func51, Try.ntmps51
      go_wp2_with fail
      refine (inRange_yes d 1 10000 _ (by omega) (by omega)).mono ?_
      rintro e w' ⟨rfl, rfl⟩
      go_wp2_with fail
      refine (inRange_no n 0 d _ h2).mono ?_
      rintro e w' ⟨rfl, rfl⟩
      go_wp2_with fail
      go_ret
      exact ⟨ret_bool (vf_no (by omega)).symm, by go_grown⟩
    · have hv := vf_gcd (n := n) (d := d) (by omega)
      have HV := Lib.hid hv
      clear hv
      go_enter Try.func51, Try.ntmps51
      go_wp2_with fail
      refine (inRange_yes d 1 10000 _ (by omega) (by omega)).mono ?_
      rintro e w' ⟨rfl, rfl⟩
      go_wp2_with fail
      refine (inRange_yes n 0 d _ (by omega) (by omega)).mono ?_
      rintro e w' ⟨rfl, rfl⟩
      go_wp2_with fail
      refine (sgcd n d _ (by omega) (by omega) (by omega) (by omega)).mono ?_
      rintro e w' ⟨rfl, rfl⟩
      go_wp2_with fail
      go_ret
      exact ⟨ret_bool HV.out, by go_grown⟩
end Go.Proofs.Ytdlbjmhjaljlfab
