/- Helpers of the laws on basins: hours with the same number, lists joined. Condition: at most 1048576 numbers. -/
import Derived.Test.YtigapnbpgbfbhacGrA
namespace Go.Proofs.Ytigapnbpgbfbhac
open Go.RowKit
set_option linter.unusedSimpArgs false
set_option linter.unusedVariables false
theorem ints_takeI {w : World} {a : Option Addr} {zs : List Int} (h : IsInts w a zs) (m : Nat) : IsInts w a (zs.take m) := by
  rcases h with rfl | ⟨g, o, rfl, hc⟩
  · exact .inl (by simp)
  · refine .inr ⟨g, o, rfl, fun i hi => ?_⟩
    rw [List.length_take] at hi
    rw [hc i (by omega), List.getD_eq_getElem?_getD, List.getD_eq_getElem?_getD, List.getElem?_take_of_lt (by omega)]
theorem ints_dropI {w : World} {g o : Nat} {zs : List Int} (h : IsInts w (some ⟨g, o, none⟩) zs) (m : Nat) : IsInts w (some ⟨g, o + m, none⟩) (zs.drop m) := by
  rcases h with rfl | ⟨g', o', e, hc⟩
  · exact .inl (by simp)
  · injection e with e; injection e with e1 e2; subst e1 e2
    refine .inr ⟨g, o + m, rfl, fun i hi => ?_⟩
    rw [List.length_drop] at hi
    rw [Nat.add_assoc, hc (m + i) (by omega), List.getD_eq_getElem?_getD, List.getD_eq_getElem?_getD, List.getElem?_drop]
theorem ints_some {w : World} {a : Option Addr} {zs : List Int} (h : IsInts w a zs) (h0 : 0 < zs.length) : ∃ g o, a = some ⟨g, o, none⟩ := by
  rcases h with rfl | ⟨g, o, e, _⟩
  · simp at h0
  · exact ⟨g, o, e⟩
set_option maxRecDepth 100000 in
set_option maxHeartbeats 4000000 in
/-- laws.steady -/
theorem lsteady (z : Int) (n : Nat) (w : World) (hn : n ≤ 1048576) :
    Calls Try.prog 39 #[.int .i64 z, .int .i64 (n : Int)] w (OutI w (List.replicate n z)) := by
  have HM := Lib.hid (And.intro (OwnI.new (Below.refl w.heap.size w)) ((Below.refl w.heap.size w).alloc (Nat.le_refl _) (.cells #[] 3)))
  go_enter Try.func39, Try.ntmps39
  go_wp2_with fail
  go_loopw [5, 6] (fun v i wr => ∃ k : Nat, k ≤ n ∧ i = .int .i64 k ∧ Hid (OwnI wr w.heap.size v (List.replicate k z)) ∧ Hid (Below w.heap.size w wr)) (fun _ i _ => n - (intOf i).toNat)
  case atStart => exact ⟨0, Nat.zero_le _, rfl, HM.out.1, HM.out.2⟩
  case round =>
    clear HM
    obtain ⟨k, hk, rfl, HO, HB⟩ := hrel
    by_cases hlt : k < n
    · have HL : Hid ((List.replicate k z).length = k) := List.length_replicate ..
      have k1 : (k : Int) < (n : Int) := by omega
      go_wp2_with (first | (at_builtin; refine wp_snoc rfl _ _ rfl rfl HO.out rfl rfl (by rw [HL.out]; omega) (HB.out.size) ?_; intro v3 w3 Q1 G3 n3))
      have B2 := below_gv HB.out G3 (fun q hq => HO.out.grow q hq)
      rw [show List.replicate k z ++ [z] = List.replicate (k + 1) z from (by rw [List.replicate_succ'])] at Q1
      have HS := Lib.hid (And.intro Q1 B2)
      clear Q1 B2 G3 n3 HO HB
      go_roundw
      case rel => exact ⟨k + 1, by omega, by go_num, HS.out.1, HS.out.2⟩
      case measure => simp [intOf]; omega
    · obtain rfl : k = n := by omega
      go_wp2_with fail
      go_ret
      exact ⟨_, rfl, HO.out, HB.out⟩
end Go.Proofs.Ytigapnbpgbfbhac
