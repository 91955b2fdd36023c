/- impl.reduced. Conditions: a denominator from 1 to 100000000. -/
import Derived.Test.YtdlbjmhjaljlfabRedS
namespace Go.Proofs.Ytdlbjmhjaljlfab
open Go.RowKit

set_option maxHeartbeats 400000 in
/-- impl.reduced -/
theorem ired (n d : Int) (w : World) (hd : 1 ≤ d) (hd' : d ≤ 100000000) :
    Calls Try.prog 84 #[.int .i64 n, .int .i64 d] w fun e w' => e = .returned (frV (Wsh.redB n d) (Wsh.rn n d) (Wsh.rd n d)) ∧ Below w.heap.size w w' := by
  by_cases h1 : n < 0
  · go_enter Try.func84, Try.ntmps84
    go_wp2
    go_returns
    exact ⟨ret_frV (Wsh.redB_no (by omega)) rfl rfl, by go_grown⟩
  · by_cases h2 : d < n
    · go_enter Try.func84, Try.ntmps84
      go_wp2
      go_returns
      exact ⟨ret_frV (Wsh.redB_no (by omega)) rfl rfl, by go_grown⟩
    · have hg := Wsh.gcd_pos n d (by omega)
      have hq := Wsh.redB_den (n := n) (d := d) (by omega)
      have HQ := Lib.hid hq
      clear hq
      obtain ⟨b0, b1⟩ := Wsh.rn_bd n d (by omega) (by omega) (by omega)
      have b2 := Wsh.rd_le n d (by omega)
      have b3 := Wsh.rd_pos n d (by omega)
      unfold Wsh.rn at b0 b1
      unfold Wsh.rd at b1 b2 b3
      have hg0 : ((Int.gcd n d : Int) == 0) = false := by simp; omega
      by_cases h3 : 10000 < d / (Int.gcd n d : Int)
      · go_enter Try.func84, Try.ntmps84
        go_wp2_with fail
        refine (igcd n d _ (by omega) (by omega) (by omega) (by omega)).mono ?_
        rintro e w' ⟨rfl, rfl⟩
        go_wp2_with fail
        go_region
        all_goals
          go_wp2
          go_returns
          exact ⟨ret_frV (by rw [HQ.out]; unfold Wsh.rd; simp; omega) rfl rfl, by go_grown⟩
      · go_enter Try.func84, Try.ntmps84
        go_wp2_with fail
        refine (igcd n d _ (by omega) (by omega) (by omega) (by omega)).mono ?_
        rintro e w' ⟨rfl, rfl⟩
        go_wp2_with fail
        go_region
        all_goals
          go_wp2
          go_returns
          exact ⟨ret_frV (by rw [HQ.out]; unfold Wsh.rd; simp; omega) rfl rfl, by go_grown⟩

end Go.Proofs.Ytdlbjmhjaljlfab
