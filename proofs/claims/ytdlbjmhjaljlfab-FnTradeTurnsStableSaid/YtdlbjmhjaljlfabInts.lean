/- Slices of integers that are read: sums, bounds, comparisons. Conditions: at most 1048576 numbers; sums: numbers from -1000000 to 1000000. -/
import Derived.Test.YtdlbjmhjaljlfabBase
import Derived.Deep.QuietTactic
import Derived.BigQuiet
import Derived.Laws.AppendOwn
import Derived.OwnWalk
import Derived.OpenShut
namespace Go.Proofs.Ytdlbjmhjaljlfab
open Go.RowKit

/-- the numbers zs, read through a slice at address a -/
def IsInts (w : World) (a : Option Addr) (zs : List Int) : Prop := zs = [] ∨ ∃ g o, a = some ⟨g, o, none⟩ ∧ ∀ i, i < zs.length → w.cell? ⟨g, o + i, none⟩ = some (.int .i64 (zs.getD i 0))

theorem take_sum (zs : List Int) (k : Nat) (h : k < zs.length) : (zs.take (k + 1)).sum = (zs.take k).sum + zs.getD k 0 := by
  rw [List.take_succ_eq_append_getElem h, List.sum_append, List.getD_eq_getElem?_getD, List.getElem?_eq_getElem h]
  simp
theorem getD_mem {zs : List Int} {k : Nat} (h : k < zs.length) : zs.getD k 0 ∈ zs := by
  rw [List.getD_eq_getElem?_getD, List.getElem?_eq_getElem h]; simp
theorem sum_bd (zs : List Int) (h : ∀ z ∈ zs, -1000000 ≤ z ∧ z ≤ 1000000) : ∀ k, k ≤ zs.length → -1000000 * (k : Int) ≤ (zs.take k).sum ∧ (zs.take k).sum ≤ 1000000 * (k : Int) := by
  intro k
  induction k with
  | zero => intro _; simp
  | succ k ih =>
    intro hk
    have h1 := ih (by omega)
    have h2 := h _ (getD_mem (k := k) (by omega))
    rw [take_sum zs k (by omega)]
    omega

set_option maxHeartbeats 400000 in
/-- spec.total -/
theorem stotal (a : Option Addr) (cap : Nat) (zs : List Int) (w : World) (h : IsInts w a zs) (hn : zs.length ≤ 1048576) (hz : ∀ z ∈ zs, -1000000 ≤ z ∧ z ≤ 1000000) :
    Calls Try.prog 79 #[.slice a zs.length cap] w fun e w' => e = .returned (.int .i64 zs.sum) ∧ w = w' := by
  rcases h with rfl | ⟨g, o, rfl, hc⟩
  · go_enter Try.func79, Try.ntmps79
    go_wp2
    go_rounds 1
    go_ret
    exact ⟨rfl, rfl⟩
  · have HB := Lib.hid (sum_bd zs hz)
    have HC := Lib.hid hc
    have HZ := Lib.hid hz
    clear hc hz
    go_enter Try.func79, Try.ntmps79
    go_wp2
    go_loop [3, 4] (fun s i => ∃ k : Nat, k ≤ zs.length ∧ i = .int .i64 k ∧ s = .int .i64 (zs.take k).sum) (fun _ i => zs.length - (intOf i).toNat)
    case atStart => exact ⟨0, Nat.zero_le _, rfl, rfl⟩
    case round =>
      obtain ⟨k, hk, rfl, rfl⟩ := hrel
      obtain ⟨b0, b1⟩ := HB.out k hk
      by_cases hlt : k < zs.length
      · have hc := HC.out k hlt
        have ht := take_sum zs k hlt
        obtain ⟨z0, z1⟩ := HZ.out _ (getD_mem hlt)
        generalize zs.getD k 0 = z at hc ht z0 z1
        have HT := Lib.hid ht
        clear ht
        go_wp2
        go_round
        case rel => exact ⟨k + 1, by omega, by go_num, by rw [HT.out]⟩
        case measure => simp [intOf]; omega
      · go_wp2
        go_ret
        exact ⟨ret_int (by rw [List.take_of_length_le (by omega)]), rfl⟩
set_option maxHeartbeats 400000 in
/-- impl.sumOf -/
theorem isum (a : Option Addr) (cap : Nat) (zs : List Int) (w : World) (h : IsInts w a zs) (hn : zs.length ≤ 1048576) (hz : ∀ z ∈ zs, -1000000 ≤ z ∧ z ≤ 1000000) :
    Calls Try.prog 69 #[.slice a zs.length cap] w fun e w' => e = .returned (.int .i64 zs.sum) ∧ w = w' := by
  rcases h with rfl | ⟨g, o, rfl, hc⟩
  · go_enter Try.func69, Try.ntmps69
    go_wp2
    go_rounds 1
    go_ret
    exact ⟨rfl, rfl⟩
  · have HB := Lib.hid (sum_bd zs hz)
    have HC := Lib.hid hc
    have HZ := Lib.hid hz
    clear hc hz
    go_enter Try.func69, Try.ntmps69
    go_wp2
    go_loop [3, 8] (fun s i => ∃ k : Nat, k ≤ zs.length ∧ i = .int .i64 k ∧ s = .int .i64 (zs.take k).sum) (fun _ i => zs.length - (intOf i).toNat)
    case atStart => exact ⟨0, Nat.zero_le _, rfl, rfl⟩
    case round =>
      obtain ⟨k, hk, rfl, rfl⟩ := hrel
      obtain ⟨b0, b1⟩ := HB.out k hk
      by_cases hlt : k < zs.length
      · have hc := HC.out k hlt
        have ht := take_sum zs k hlt
        obtain ⟨z0, z1⟩ := HZ.out _ (getD_mem hlt)
        generalize zs.getD k 0 = z at hc ht z0 z1
        have HT := Lib.hid ht
        clear ht
        go_wp2
        go_round
        case rel => exact ⟨k + 1, by omega, by go_num, by rw [HT.out]⟩
        case measure => simp [intOf]; omega
      · go_wp2
        go_ret
        exact ⟨ret_int (by rw [List.take_of_length_le (by omega)]), rfl⟩
/-- every number is in 0..most -/
def allB (zs : List Int) (most : Int) : Bool := zs.all fun z => decide (0 ≤ z) && decide (z ≤ most)
theorem allB_iff (zs : List Int) (most : Int) : allB zs most = true ↔ ∀ z ∈ zs, 0 ≤ z ∧ z ≤ most := by unfold allB; simp
theorem allB_no {zs : List Int} {most : Int} {k : Nat} (h : k < zs.length) (hz : zs.getD k 0 < 0 ∨ most < zs.getD k 0) : allB zs most = false := by
  rw [Bool.eq_false_iff]; intro h2; rw [allB_iff] at h2; have := h2 _ (getD_mem h); omega
theorem allB_yes {zs : List Int} {most : Int} (h : ∀ i, i < zs.length → 0 ≤ zs.getD i 0 ∧ zs.getD i 0 ≤ most) : allB zs most = true := by
  rw [allB_iff]; intro z hz
  obtain ⟨i, hi, rfl⟩ := List.getElem_of_mem hz
  have := h i hi
  rwa [List.getD_eq_getElem?_getD, List.getElem?_eq_getElem hi, Option.getD_some] at this

/-- impl.isWithin -/
theorem iwithin_yes (n m : Int) (w : World) (a : 0 ≤ n) (b : n ≤ m) :
    Calls Try.prog 92 #[.int .i64 n, .int .i64 m] w fun e w' => e = .returned (.bool true) ∧ w = w' := by
  go_enter Try.func92, Try.ntmps92
  go_wp2
  go_ret
  exact ⟨rfl, rfl⟩
theorem iwithin_no (n m : Int) (w : World) (a : n < 0 ∨ m < n) :
    Calls Try.prog 92 #[.int .i64 n, .int .i64 m] w fun e w' => e = .returned (.bool false) ∧ w = w' := by
  by_cases b : n < 0
  · go_enter Try.func92, Try.ntmps92
    go_wp2
    go_ret
    exact ⟨rfl, rfl⟩
  · have c : m < n := by omega
    have hd : decide (n ≤ m) = false := by simp; omega
    clear a
    go_enter Try.func92, Try.ntmps92
    go_wp2
    go_ret
    exact ⟨rfl, rfl⟩
set_option maxHeartbeats 400000 in
/-- impl.allWithin -/
theorem iall (a : Option Addr) (cap : Nat) (zs : List Int) (most : Int) (w : World) (h : IsInts w a zs) (hn : zs.length ≤ 1048576) :
    Calls Try.prog 68 #[.slice a zs.length cap, .int .i64 most] w fun e w' => e = .returned (.bool (allB zs most)) ∧ w = w' := by
  rcases h with rfl | ⟨g, o, rfl, hc⟩
  · go_enter Try.func68, Try.ntmps68
    go_wp2
    go_rounds 1
    go_ret
    exact ⟨rfl, rfl⟩
  · have HC := Lib.hid hc
    clear hc
    go_enter Try.func68, Try.ntmps68
    go_wp2
    go_loop [9] (fun i => ∃ k : Nat, k ≤ zs.length ∧ i = .int .i64 k ∧ Hid (∀ j, j < k → 0 ≤ zs.getD j 0 ∧ zs.getD j 0 ≤ most)) (fun i => zs.length - (intOf i).toNat)
    case atStart => exact ⟨0, Nat.zero_le _, rfl, fun j hj => by omega⟩
    case round =>
      obtain ⟨k, hk, rfl, HA⟩ := hrel
      by_cases hlt : k < zs.length
      · have hc := HC.out k hlt
        have hno := allB_no (most := most) hlt
        have hyes : 0 ≤ zs.getD k 0 → zs.getD k 0 ≤ most → ∀ j, j < k + 1 → 0 ≤ zs.getD j 0 ∧ zs.getD j 0 ≤ most := fun h0 h1 j hj => by
          by_cases hjk : j = k
          · subst hjk; exact ⟨h0, h1⟩
          · exact HA.out j (by omega)
        generalize zs.getD k 0 = z at hc hno hyes
        have HN := Lib.hid hno
        have HY := Lib.hid hyes
        clear hno hyes
        by_cases zb : z < 0 ∨ most < z
        · go_wp2_with fail
          refine (iwithin_no z most _ zb).mono ?_
          rintro e w' ⟨rfl, rfl⟩
          go_wp2_with fail
          go_ret
          exact ⟨ret_bool (HN.out zb).symm, rfl⟩
        · go_wp2_with fail
          refine (iwithin_yes z most _ (by omega) (by omega)).mono ?_
          rintro e w' ⟨rfl, rfl⟩
          go_wp2_with fail
          go_round
          case rel => exact ⟨k + 1, by omega, by go_num, HY.out (by omega) (by omega)⟩
          case measure => simp [intOf]; omega
      · go_wp2
        go_ret
        exact ⟨ret_bool (allB_yes (fun j hj => HA.out j (by omega))).symm, rfl⟩
end Go.Proofs.Ytdlbjmhjaljlfab
