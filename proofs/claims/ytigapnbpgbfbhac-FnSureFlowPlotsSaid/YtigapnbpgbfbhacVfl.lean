/- Flows that are valid. Condition: at most 1048576 numbers. -/
import Derived.Test.YtigapnbpgbfbhacGrA
namespace Go.Proofs.Ytigapnbpgbfbhac
open Go.RowKit
set_option linter.unusedSimpArgs false
set_option linter.unusedVariables false
set_option maxHeartbeats 2000000 in
/-- spec.validFlows -/
theorem svflows (a : Option Addr) (cap : Nat) (zs : List Int) (w : World) (h : IsInts w a zs) (hn : zs.length ≤ 1048576) :
    Calls Try.prog 59 #[.slice a zs.length cap] w fun e w' => e = .returned (.bool (decide (zs.length ≤ 200) && allB zs 500)) ∧ w = w' := by
  rcases h with rfl | ⟨g, o, rfl, hc⟩
  · rw [show (decide (([] : List Int).length ≤ 200) && allB [] 500) = true from rfl]
    go_enter Try.func59, Try.ntmps59
    go_wp2_with fail
    refine wp_loop_rounds 1 ?_
    rw [rounds_succ]
    go_wp2_with fail
    go_ret
    exact ⟨rfl, rfl⟩
  · have HC := Lib.hid hc
    obtain ⟨R, hR⟩ : ∃ R, (decide (zs.length ≤ 200) && allB zs 500) = R := ⟨_, rfl⟩
    rw [hR]
    have HR := Lib.hid hR
    clear hc hR
    go_enter Try.func59, Try.ntmps59
    go_wp2_with fail
    go_loop [3] (fun i => ∃ k : Nat, k ≤ zs.length ∧ i = .int .i64 k ∧ Hid (∀ j, j < k → 0 ≤ zs.getD j 0 ∧ zs.getD j 0 ≤ 500)) (fun i => zs.length - (intOf i).toNat)
    case atStart => exact ⟨0, Nat.zero_le _, rfl, fun j hj => by omega⟩
    case round =>
      obtain ⟨k, hk, rfl, HA⟩ := hrel
      by_cases hlt : k < zs.length
      · have hc := HC.out k hlt
        have hno := allB_no (most := 500) hlt
        have hyes : 0 ≤ zs.getD k 0 → zs.getD k 0 ≤ 500 → ∀ j, j < k + 1 → 0 ≤ zs.getD j 0 ∧ zs.getD j 0 ≤ 500 := fun h0 h1 j hj => by
          by_cases hjk : j = k
          · subst hjk; exact ⟨h0, h1⟩
          · exact HA.out j (by omega)
        generalize zs.getD k 0 = z at hc hno hyes
        have HN := Lib.hid hno
        have HY := Lib.hid hyes
        clear hno hyes
        by_cases zb : z < 0 ∨ 500 < z
        · have HNN : Hid (R = false) := by show R = false; rw [← HR.out, HN.out zb]; simp
          go_wp2_with fail
          refine (inRange_no z 0 500 _ zb).mono ?_
          rintro e w' ⟨rfl, rfl⟩
          go_wp2_with fail
          go_ret
          exact ⟨ret_bool HNN.out.symm, rfl⟩
        · go_wp2_with fail
          refine (inRange_yes z 0 500 _ (by omega) (by omega)).mono ?_
          rintro e w' ⟨rfl, rfl⟩
          go_wp2_with fail
          go_round
          case rel => exact ⟨k + 1, by omega, by go_num, HY.out (by omega) (by omega)⟩
          case measure => simp [intOf]; omega
      · have hall := allB_yes (zs := zs) (most := 500) (fun j hj => HA.out j (by omega))
        have HS : Hid (R = decide (zs.length ≤ 200)) := by show R = _; rw [← HR.out, hall, Bool.and_true]
        clear hall
        by_cases h2 : zs.length ≤ 200
        · have HT : Hid (R = true) := by show R = true; rw [HS.out]; exact decide_eq_true h2
          have e1 : decide ((zs.length : Int) ≤ 200) = true := decide_eq_true (by omega)
          go_wp2_with fail
          go_ret
          exact ⟨ret_bool HT.out.symm, rfl⟩
        · have e1 : decide ((zs.length : Int) ≤ 200) = false := decide_eq_false (by omega)
          have HT : Hid (R = false) := by show R = false; rw [HS.out]; exact decide_eq_false h2
          have e2 : decide (zs.length ≤ 200) = false := decide_eq_false h2
          go_wp2_with fail
          go_ret
          exact ⟨ret_bool HT.out.symm, rfl⟩
/-- impl.areHours -/
theorem iHours (a : Option Addr) (cap : Nat) (zs : List Int) (w : World) (h : IsInts w a zs) (hn : zs.length ≤ 1048576) :
    Calls Try.prog 56 #[.slice a zs.length cap] w fun e w' => e = .returned (.bool (decide (zs.length ≤ 200) && allB zs 500)) ∧ w = w' := by
  have CA := iall a cap zs 500 w h hn
  by_cases h2 : zs.length ≤ 200
  · rw [decide_eq_true h2]
    have e1 : decide ((zs.length : Int) ≤ 200) = true := decide_eq_true (by omega)
    clear h2 h
    go_enter Try.func56, Try.ntmps56
    go_wp2_with fail
    refine CA.mono ?_
    rintro e w' ⟨rfl, rfl⟩
    go_wp2_with fail
    go_ret
    exact ⟨rfl, rfl⟩
  · rw [decide_eq_false h2]
    have e1 : decide ((zs.length : Int) ≤ 200) = false := decide_eq_false (by omega)
    clear h2 h CA
    go_enter Try.func56, Try.ntmps56
    go_wp2_with fail
    go_ret
    exact ⟨rfl, rfl⟩
end Go.Proofs.Ytigapnbpgbfbhac
