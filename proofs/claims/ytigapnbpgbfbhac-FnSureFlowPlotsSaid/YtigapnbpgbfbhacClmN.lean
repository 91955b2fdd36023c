/- Claims by the program: orders, and by turns. Condition: at most 1048576 numbers. -/
import Derived.Test.YtigapnbpgbfbhacClmJ
import Derived.Test.YtigapnbpgbfbhacClmO
namespace Go.Proofs.Ytigapnbpgbfbhac
open Go.RowKit
set_option linter.unusedSimpArgs false
set_option linter.unusedVariables false
theorem ints_takeN {w : World} {a : Option Addr} {zs : List Int} (h : IsInts w a zs) (k : Nat) : IsInts w a (zs.take k) := by
  rcases h with rfl | ⟨g, o, ha, hc⟩
  · exact .inl (by simp)
  · refine .inr ⟨g, o, ha, fun i hi => ?_⟩
    rw [List.length_take] at hi
    have e : (zs.take k).getD i 0 = zs.getD i 0 := by rw [List.getD_eq_getElem?_getD, List.getD_eq_getElem?_getD, List.getElem?_take_of_lt (by omega)]
    rw [e]; exact hc i (by omega)
theorem mem_getN {zs : List Int} {n : Int} : n ∈ zs ↔ ∃ j, j < zs.length ∧ zs.getD j 0 = n := by
  constructor
  · intro h
    obtain ⟨i, hi, e⟩ := List.getElem_of_mem h
    exact ⟨i, hi, by rw [List.getD_eq_getElem?_getD, List.getElem?_eq_getElem hi]; exact e⟩
  · rintro ⟨j, hj, e⟩
    rw [← e]; exact getD_mem hj

set_option maxHeartbeats 1000000 in
theorem ihasN (a : Option Addr) (cap m : Nat) (zs : List Int) (n : Int) (w : World) (h : IsInts w a zs) (hl : zs.length = m) (hn : m ≤ 1048576) :
    Calls Try.prog 48 #[.slice a m cap, .int .i64 n] w fun e w' => e = .returned (.bool (decide (n ∈ zs))) ∧ w = w' := by
  subst hl
  rcases h with rfl | ⟨g, o, rfl, hc⟩
  · go_enter Try.func48, Try.ntmps48
    go_wp2
    go_rounds 1
    go_ret
    exact ⟨rfl, rfl⟩
  · have HC := Lib.hid hc
    clear hc
    go_enter Try.func48, Try.ntmps48
    go_wp2
    go_loop [9] (fun i => ∃ k : Nat, k ≤ zs.length ∧ i = .int .i64 k ∧ Hid (∀ j, j < k → zs.getD j 0 ≠ n)) (fun i => zs.length - (intOf i).toNat)
    case atStart => exact ⟨0, Nat.zero_le _, rfl, fun j hj => by omega⟩
    case round =>
      obtain ⟨k, hk, rfl, HK⟩ := hrel
      by_cases hlt : k < zs.length
      · have hc := HC.out k hlt
        have hy : zs.getD k 0 ≠ n → ∀ j, j < k + 1 → zs.getD j 0 ≠ n := fun e j hj => by
          by_cases ej : j = k
          · subst ej; exact e
          · exact HK.out j (by omega)
        have hm : zs.getD k 0 = n → decide (n ∈ zs) = true := fun e => decide_eq_true (mem_getN.2 ⟨k, hlt, e⟩)
        generalize zs.getD k 0 = z at hc hy hm
        have HY := Lib.hid hy
        have HM := Lib.hid hm
        clear hy hm
        by_cases e : z = n
        · have eb : (z == n) = true := by simpa using e
          have HMM := Lib.hid (HM.out e)
          clear e
          go_wp2_with fail
          go_ret
          exact ⟨ret_bool HMM.out.symm, rfl⟩
        · have eb : (z == n) = false := by simpa using e
          go_wp2_with fail
          go_round
          case rel => exact ⟨k + 1, by omega, by go_num, HY.out e⟩
          case measure => simp [intOf]; omega
      · have HN : Hid (decide (n ∈ zs) = false) := by
          show _ = _
          rw [decide_eq_false_iff_not, mem_getN]
          rintro ⟨j, hj, e⟩
          exact HK.out j (by omega) e
        go_wp2_with fail
        go_ret
        exact ⟨ret_bool HN.out.symm, rfl⟩
theorem has_noN {n : Nat} {r : List Int} {k : Nat} (hk : k < n) (h : (k : Int) ∉ r) : hasB n r = false := by
  unfold hasB
  rw [Bool.and_eq_false_iff]
  exact .inr (rng_no hk (decide_eq_false h))
theorem has_lenN {n : Nat} {r : List Int} (h : r.length ≠ n) : hasB n r = false := by
  unfold hasB; rw [decide_eq_false h]; rfl
theorem has_yesN {n : Nat} {r : List Int} (h : r.length = n) (h2 : ∀ k : Nat, k < n → (k : Int) ∈ r) : hasB n r = true := by
  unfold hasB; rw [decide_eq_true h, rng_yes fun j hj => decide_eq_true (h2 j hj)]; rfl

theorem iLesserN (a b : Int) (w : World) :
    Calls Try.prog 72 #[.int .i64 a, .int .i64 b] w fun e w' => e = .returned (.int .i64 (min a b)) ∧ w = w' := by
  by_cases h : a < b
  · have e : min a b = a := by omega
    rw [e]
    clear e
    go_enter Try.func72, Try.ntmps72
    go_wp2
    go_ret
    exact ⟨rfl, rfl⟩
  · have e : min a b = b := by omega
    rw [e]
    clear e
    go_enter Try.func72, Try.ntmps72
    go_wp2
    go_ret
    exact ⟨rfl, rfl⟩
theorem it_no1 {n : Int} {cs os : List Int} (h : vcB n cs = false) : itB n cs os = false := by unfold itB; rw [h]; rfl
theorem it_no2 {n : Int} {cs os : List Int} (h : ordB cs.length os = false) : itB n cs os = false := by unfold itB; rw [h]; simp
end Go.Proofs.Ytigapnbpgbfbhac
