/- Helpers of the laws on lists of numbers: a number that is in it, lists that ascend. Condition: at most 1048576 numbers. -/
import Derived.Test.YtigapnbpgbfbhacGrA
namespace Go.Proofs.Ytigapnbpgbfbhac
open Go.RowKit
set_option linter.unusedSimpArgs false
set_option linter.unusedVariables false
set_option maxHeartbeats 1000000 in
/-- laws.isIn -/
theorem lisIn (a : Option Addr) (cap : Nat) (zs : List Int) (n : Int) (w : World) (h : IsInts w a zs) (hn : zs.length ≤ 1048576) :
    Calls Try.prog 32 #[.slice a zs.length cap, .int .i64 n] w fun e w' => e = .returned (.bool (decide (n ∈ zs))) ∧ w = w' := by
  rcases h with rfl | ⟨g, o, rfl, hc⟩
  · go_enter Try.func32, Try.ntmps32
    go_wp2
    go_rounds 1
    go_ret
    exact ⟨rfl, rfl⟩
  · have HC := Lib.hid hc
    obtain ⟨R, hR⟩ : ∃ R, decide (n ∈ zs) = R := ⟨_, rfl⟩
    rw [hR]
    have HR := Lib.hid hR
    clear hc hR
    go_enter Try.func32, Try.ntmps32
    go_wp2
    go_loop [5] (fun i => ∃ k : Nat, k ≤ zs.length ∧ i = .int .i64 k ∧ Hid (∀ j, j < k → zs.getD j 0 ≠ n)) (fun i => zs.length - (intOf i).toNat)
    case atStart => exact ⟨0, Nat.zero_le _, rfl, fun j hj => by omega⟩
    case round =>
      obtain ⟨k, hk, rfl, HA⟩ := hrel
      by_cases hlt : k < zs.length
      · have hc := HC.out k hlt
        have hm := getD_mem hlt
        have hno : zs.getD k 0 ≠ n → ∀ j, j < k + 1 → zs.getD j 0 ≠ n := fun e j hj => by
          by_cases c : j = k
          · subst c; exact e
          · exact HA.out j (by omega)
        generalize zs.getD k 0 = z at hc hm hno
        by_cases e : z = n
        · have HT : Hid (R = true) := by show R = true; rw [← HR.out]; exact decide_eq_true (e ▸ hm)
          subst e
          clear hno hm
          go_wp2
          go_ret
          exact ⟨ret_bool HT.out.symm, rfl⟩
        · have HN := Lib.hid (hno e)
          have e1 : (z == n) = false := by simpa using e
          clear hno hm e
          go_wp2
          go_round
          case rel => exact ⟨k + 1, by omega, by go_num, HN.out⟩
          case measure => simp [intOf]; omega
      · have HT : Hid (R = false) := by
          show R = false
          rw [← HR.out]
          refine decide_eq_false (fun c => ?_)
          obtain ⟨j, hj, e⟩ := List.getElem_of_mem c
          exact HA.out j (by omega) (by rw [List.getD_eq_getElem?_getD, List.getElem?_eq_getElem hj, e]; rfl)
        go_wp2
        go_ret
        exact ⟨ret_bool HT.out.symm, rfl⟩
set_option maxHeartbeats 2000000 in
/-- laws.ascends, of a list that ascends -/
theorem lasc (a : Option Addr) (cap : Nat) (zs : List Int) (w : World) (h : IsInts w a zs) (hn : zs.length ≤ 1048576) (ha : ∀ i j, i < j → j < zs.length → zs.getD i 0 < zs.getD j 0) :
    Calls Try.prog 33 #[.slice a zs.length cap] w fun e w' => e = .returned (.bool true) ∧ Below w.heap.size w w' := by
  rcases h with rfl | ⟨g, o, rfl, hc⟩
  · go_enter Try.func33, Try.ntmps33
    go_wp2
    go_rounds 1
    go_ret
    exact ⟨rfl, by go_grown⟩
  · have HC := Lib.hid hc
    have HA := Lib.hid ha
    clear hc ha
    go_enter Try.func33, Try.ntmps33
    go_wp2
    go_loopw [3] (fun i wr => ∃ k : Nat, 1 ≤ k ∧ (k ≤ zs.length ∨ k = 1) ∧ i = .int .i64 k ∧ Below w.heap.size w wr) (fun i _ => zs.length - (intOf i).toNat)
    case atStart => exact ⟨1, Nat.le_refl _, .inr rfl, rfl, by go_grown⟩
    case round =>
      obtain ⟨k, k1, hk, rfl, hB⟩ := hrel
      by_cases hlt : k < zs.length
      · obtain ⟨m, rfl⟩ : ∃ m, k = m + 1 := ⟨k - 1, by omega⟩
        have hc1' := HC.out (m + 1) hlt
        have hc0' := HC.out m (by omega)
        have hc1 := (hB.cell (p := ⟨g, o + (m + 1), none⟩) (World.block_lt_of_cell? w _ hc1')).trans hc1'
        have hc0 := (hB.cell (p := ⟨g, o + m, none⟩) (World.block_lt_of_cell? w _ hc0')).trans hc0'
        have hz := HA.out m (m + 1) (by omega) hlt
        generalize zs.getD m 0 = x at hc0 hz
        generalize zs.getD (m + 1) 0 = y at hc1 hz
        have e1 : decide (y ≤ x) = false := decide_eq_false (by omega)
        have wm : IntKind.i64.wrap (((m + 1 : Nat) : Int) - 1) = (m : Int) := by rw [IntKind.wrap_i64]; omega
        have b0 : (0 : Int) ≤ (m : Int) := by omega
        have b1 : (m : Int) < (zs.length : Int) := by omega
        have b2 : ((m + 1 : Nat) : Int) < (zs.length : Int) := by omega
        have b3 : (0 : Int) ≤ ((m + 1 : Nat) : Int) := by omega
        have tn : (((m + 1 : Nat) : Int)).toNat = m + 1 := by omega
        have HB := Lib.hid hB
        clear hc0' hc1' hB hz hk
        generalize hq : ((m + 1 : Nat) : Int) = q at *
        go_wp2
        go_quiet (fail)
        go_wp2
        go_roundw
        case rel => exact ⟨m + 1 + 1, by omega, .inl (by omega), by rw [← hq]; go_num, below_drewN HB.out _⟩
        case measure => simp [intOf]; omega
      · have e1 : decide ((k : Int) < (zs.length : Int)) = false := decide_eq_false (by omega)
        have e2 : decide (k < zs.length) = false := decide_eq_false hlt
        have HB := Lib.hid hB
        clear hB hk
        go_wp2
        go_ret
        exact ⟨rfl, HB.out⟩
end Go.Proofs.Ytigapnbpgbfbhac
