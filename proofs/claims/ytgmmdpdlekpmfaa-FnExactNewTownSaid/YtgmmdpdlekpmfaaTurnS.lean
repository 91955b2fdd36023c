/- Rotations that are read, by the model: hours, valid rotations, whose turn it is. Condition: at most 1048576 turns. -/
import Derived.Test.YtgmmdpdlekpmfaaTurnI
namespace Go.Proofs.Ytgmmdpdlekpmfaa
open Go.RowKit
set_option linter.unusedSimpArgs false
set_option linter.unusedVariables false

set_option maxHeartbeats 1000000 in
/-- spec.period -/
theorem speriod (a : Option Addr) (cap : Nat) (ts : List Tn) (w : World) (h : IsTn w a ts) (hn : ts.length ≤ 1048576) (hz : ∀ k, k < ts.length → 0 ≤ (ts.getD k tn0).2 ∧ (ts.getD k tn0).2 ≤ 1000000) :
    Calls Try.prog 167 #[.slice a ts.length cap] w fun e w' => e = .returned (.int .i64 (sumT ts)) ∧ w = w' := by
  rcases h with rfl | ⟨g, o, rfl, hc⟩
  · go_enter Try.func167, Try.ntmps167
    go_wp2
    go_rounds 1
    go_ret
    exact ⟨rfl, rfl⟩
  · have HC := Lib.hid hc
    have HZ := Lib.hid hz
    have HB := Lib.hid (sumT_bd2 hz)
    clear hc hz
    go_enter Try.func167, Try.ntmps167
    go_wp2
    go_loop [3, 4] (fun s i => ∃ k : Nat, k ≤ ts.length ∧ i = .int .i64 k ∧ s = .int .i64 (sumT (ts.take k))) (fun _ i => ts.length - (intOf i).toNat)
    case atStart => exact ⟨0, Nat.zero_le _, rfl, rfl⟩
    case round =>
      obtain ⟨k, hk, rfl, rfl⟩ := hrel
      obtain ⟨b0, b1⟩ := HB.out k hk
      by_cases hlt : k < ts.length
      · obtain ⟨c0, c1⟩ := HC.out k hlt
        have ht := sumT_succ hlt
        obtain ⟨z0, z1⟩ := HZ.out k hlt
        generalize ts.getD k tn0 = hh at c0 c1 ht z0 z1
        obtain ⟨x, y⟩ := hh
        dsimp only at c0 c1 ht z0 z1
        generalize sumT (ts.take k) = s at ht b0 b1
        have HT := Lib.hid ht
        clear ht
        go_wp2
        go_round
        case rel => exact ⟨k + 1, by omega, by go_num, by rw [HT.out]⟩
        case measure => simp [intOf]; omega
      · go_wp2
        go_ret
        exact ⟨ret_int (by rw [List.take_of_length_le (by omega)]), rfl⟩

theorem okT_bd {ts : List Tn} {k : Nat} (hk : k ≤ ts.length) (hn : ts.length ≤ 1048576) (h : ∀ j, j < k → okT ts j = true) : 0 ≤ sumT (ts.take k) ∧ sumT (ts.take k) ≤ 352321536 := by
  have := sumT_bd k hk h; omega
set_option maxHeartbeats 2000000 in
/-- spec.validTurns -/
theorem svt (a : Option Addr) (cap : Nat) (ts : List Tn) (w : World) (h : IsTn w a ts) (hn : ts.length ≤ 1048576) :
    Calls Try.prog 93 #[.slice a ts.length cap] w fun e w' => e = .returned (.bool (vtB ts)) ∧ w = w' := by
  rcases h with rfl | ⟨g, o, rfl, hc⟩
  · go_enter Try.func93, Try.ntmps93
    go_wp2_with fail
    refine wp_loop_rounds 1 ?_
    rw [rounds_succ]
    go_wp2_with fail
    refine (inRange_no 0 1 24 _ (by omega)).mono ?_
    rintro e w' ⟨rfl, rfl⟩
    go_wp2_with fail
    go_ret
    exact ⟨rfl, rfl⟩
  · have HC := Lib.hid hc
    clear hc
    go_enter Try.func93, Try.ntmps93
    go_wp2_with fail
    go_loop [3, 4] (fun s i => ∃ k : Nat, k ≤ ts.length ∧ i = .int .i64 k ∧ s = .int .i64 (sumT (ts.take k)) ∧ Hid (∀ j, j < k → okT ts j = true)) (fun _ i => ts.length - (intOf i).toNat)
    case atStart => exact ⟨0, Nat.zero_le _, rfl, rfl, fun j hj => by omega⟩
    case round =>
      obtain ⟨k, hk, rfl, rfl, HA⟩ := hrel
      by_cases hlt : k < ts.length
      · obtain ⟨c0, c1⟩ := HC.out k hlt
        obtain ⟨b0, b1⟩ := okT_bd hk hn HA.out
        have ht := sumT_succ hlt
        have hno : ¬ (1 ≤ (ts.getD k tn0).1 ∧ (ts.getD k tn0).1 ≤ 999 ∧ 1 ≤ (ts.getD k tn0).2 ∧ (ts.getD k tn0).2 ≤ 336) → vtB ts = false := fun e => vt_no2 hlt (okT_no e)
        have hyes : (1 ≤ (ts.getD k tn0).1 ∧ (ts.getD k tn0).1 ≤ 999 ∧ 1 ≤ (ts.getD k tn0).2 ∧ (ts.getD k tn0).2 ≤ 336) → ∀ j, j < k + 1 → okT ts j = true := fun e => rng_more HA.out ((okT_iff ts k).2 e)
        generalize ts.getD k tn0 = hh at c0 c1 hno hyes ht
        obtain ⟨x, y⟩ := hh
        dsimp only at c0 c1 hno hyes ht
        generalize sumT (ts.take k) = s at ht b0 b1
        have HT := Lib.hid ht
        have HN := Lib.hid hno
        have HY := Lib.hid hyes
        clear hno hyes ht HA
        by_cases h2 : 1 ≤ x ∧ x ≤ 999
        · by_cases h3 : 1 ≤ y ∧ y ≤ 336
          · have HY2 := Lib.hid (HY.out ⟨h2.1, h2.2, h3.1, h3.2⟩)
            have y0 := h3.1
            have y1 := h3.2
            go_wp2_with fail
            refine (inRange_yes x 1 999 _ h2.1 h2.2).mono ?_
            rintro e w' ⟨rfl, rfl⟩
            go_wp2_with fail
            refine (inRange_yes y 1 336 _ h3.1 h3.2).mono ?_
            rintro e w' ⟨rfl, rfl⟩
            go_wp2_with fail
            go_round
            case rel => exact ⟨k + 1, by omega, by go_num, by rw [HT.out], HY2.out⟩
            case measure => simp [intOf]; omega
          · have hv : Hid (vtB ts = false) := HN.out (fun c => h3 ⟨c.2.2.1, c.2.2.2⟩)
            go_wp2_with fail
            refine (inRange_yes x 1 999 _ h2.1 h2.2).mono ?_
            rintro e w' ⟨rfl, rfl⟩
            go_wp2_with fail
            refine (inRange_no y 1 336 _ (by omega)).mono ?_
            rintro e w' ⟨rfl, rfl⟩
            go_wp2_with fail
            go_ret
            exact ⟨ret_bool hv.out.symm, rfl⟩
        · have hv : Hid (vtB ts = false) := HN.out (fun c => h2 ⟨c.1, c.2.1⟩)
          go_wp2_with fail
          refine (inRange_no x 1 999 _ (by omega)).mono ?_
          rintro e w' ⟨rfl, rfl⟩
          go_wp2_with fail
          go_ret
          exact ⟨ret_bool hv.out.symm, rfl⟩
      · obtain rfl : k = ts.length := by omega
        rw [sumT_all]
        have HA2 := HA
        clear HA
        by_cases h24 : 1 ≤ ts.length ∧ ts.length ≤ 24
        · have HE := Lib.hid (vt_end h24.1 h24.2 HA2.out)
          go_wp2_with fail
          refine (inRange_yes (ts.length : Int) 1 24 _ (by omega) (by omega)).mono ?_
          rintro e w' ⟨rfl, rfl⟩
          go_wp2_with fail
          go_ret
          exact ⟨ret_bool HE.out.symm, rfl⟩
        · have hv : Hid (vtB ts = false) := by
            by_cases c : 1 ≤ ts.length
            · exact vt_no1 (by omega)
            · exact vt_no0 (by omega)
          go_wp2_with fail
          refine (inRange_no (ts.length : Int) 1 24 _ (by omega)).mono ?_
          rintro e w' ⟨rfl, rfl⟩
          go_wp2_with fail
          go_ret
          exact ⟨ret_bool hv.out.symm, rfl⟩
end Go.Proofs.Ytgmmdpdlekpmfaa
