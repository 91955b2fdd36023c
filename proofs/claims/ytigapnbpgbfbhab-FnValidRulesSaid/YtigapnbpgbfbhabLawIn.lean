/- Helpers of the laws on lists of numbers: a number that is in it, lists that ascend. Condition: at most 1048576 numbers. -/
import Derived.Test.YtigapnbpgbfbhabGrA
namespace Go.Proofs.Ytigapnbpgbfbhab
open Go.RowKit
set_option linter.unusedSimpArgs false
set_option linter.unusedVariables false
set_option maxHeartbeats 1000000 in
/-- laws.isIn -/
theorem lisIn (a : Option Addr) (cap : Nat) (zs : List Int) (n : Int) (w : World) (h : IsInts w a zs) (hn : zs.length ≤ 1048576) :
    Calls Try.prog 40 #[.slice a zs.length cap, .int .i64 n] w fun e w' => e = .returned (.bool (decide (n ∈ zs))) ∧ w = w' := by
  rcases h with rfl | ⟨g, o, rfl, hc⟩
  · go_enter Try.func40, Try.ntmps40
    go_wp2
    go_rounds 1
    go_ret
    exact ⟨rfl, rfl⟩
  · have HC := Lib.hid hc
    obtain ⟨R, hR⟩ : ∃ R, decide (n ∈ zs) = R := ⟨_, rfl⟩
    rw [hR]
    have HR := Lib.hid hR
    clear hc hR
    go_enter Try.func40, Try.ntmps40
    go_wp2
    go_loop [5] (fun i => ∃ k : Nat, k ≤ zs.length ∧ i = .int .i64 k ∧ Hid (∀ j, j < k → zs.getD j 0 ≠ n)) (fun i => zs.length - (intOf i).toNat)
    case atStart => exact ⟨0, Nat.zero_le _, rfl, fun j hj => by omega⟩
    case round =>
      obtain ⟨k, hk, rfl, HA⟩ := hrel
      by_cases hlt : k < zs.length
      · have hc := HC.out k hlt
        have hm := getD_mem hlt
        have hno : zs.getD k 0 ≠ n → ∀ j, j < k + 1 → zs.getD j 0 ≠ n := fun e j hj => by
          by_cases c : j = k
          · subst c; exact e
          · exact HA.out j (by omega)
        generalize zs.getD k 0 = z at hc hm hno
        by_cases e : z = n
        · have HT : Hid (R = true) := by show R = true; rw [← HR.out]; exact decide_eq_true (e ▸ hm)
          subst e
          clear hno hm
          go_wp2
          go_ret
          exact ⟨ret_bool HT.out.symm, rfl⟩
        · have HN := Lib.hid (hno e)
          have e1 : (z == n) = false := by simpa using e
          clear hno hm e
          go_wp2
          go_round
          case rel => exact ⟨k + 1, by omega, by go_num, HN.out⟩
          case measure => simp [intOf]; omega
      · have HT : Hid (R = false) := by
          show R = false
          rw [← HR.out]
          refine decide_eq_false (fun c => ?_)
          obtain ⟨j, hj, e⟩ := List.getElem_of_mem c
          exact HA.out j (by omega) (by rw [List.getD_eq_getElem?_getD, List.getElem?_eq_getElem hj, e]; rfl)
        go_wp2
        go_ret
        exact ⟨ret_bool HT.out.symm, rfl⟩
end Go.Proofs.Ytigapnbpgbfbhab
