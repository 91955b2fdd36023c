/- highestOwner of the laws: the highest owner of the turns, 0 without turns. Condition: at most 1048576 turns. -/
import Derived.Test.YthkeopkehjkpeaaTurnM
import Derived.Test.YthkeopkehjkpeaaRead
import Derived.Deep.DeepCutAuto
namespace Go.Proofs.Ythkeopkehjkpeaa
open Go.RowKit

set_option maxHeartbeats 2000000 in
theorem topO (a : Option Addr) (cap : Nat) (ts : List Tn) (w : World) (h : IsTn w a ts) (hn : ts.length ≤ 1048576) :
    Calls Try.prog 22 #[.slice a ts.length cap] w fun e w' => e = .returned (.int .i64 (maxO ts ts.length)) ∧ Below w.heap.size w w' := by
  rcases h with rfl | ⟨g, o, rfl, hc⟩
  · go_enter Try.func22, Try.ntmps22
    go_wp2
    go_rounds 1
    go_ret
    exact ⟨rfl, by go_grown⟩
  · have HC := Lib.hid hc
    clear hc
    go_enter Try.func22, Try.ntmps22
    go_wp2
    go_loopw [3, 4] (fun m i wr => ∃ k : Nat, k ≤ ts.length ∧ i = .int .i64 k ∧ m = .int .i64 (maxO ts k) ∧ Below w.heap.size w wr) (fun _ i _ => ts.length - (intOf i).toNat)
    case atStart => exact ⟨0, Nat.zero_le _, rfl, rfl, by go_grown⟩
    case round =>
      obtain ⟨k, hk, rfl, rfl, hB⟩ := hrel
      by_cases hlt : k < ts.length
      · obtain ⟨c0, c1⟩ := tn_at HC.out hB hlt
        have hs : Hid (maxO ts (k + 1) = max (maxO ts k) (ts.getD k tn0).1) := rfl
        generalize xs : (ts.getD k tn0).1 = x at c0 hs
        generalize ms : maxO ts k = m at hs
        have HB := Lib.hid hB
        clear hB xs ms c1
        have i0 : (0 : Int) ≤ (k : Int) := by omega
        have i1 : (k : Int) < (ts.length : Int) := by omega
        go_wp2_with fail
        go_roundw
        case rel => exact ⟨k + 1, by omega, by go_num, by rw [hs.out]; congr 1; split <;> omega, HB.out⟩
        case measure => simp [intOf]; omega
      · obtain rfl : k = ts.length := by omega
        go_wp2_with fail
        go_ret
        exact ⟨rfl, hB⟩
end Go.Proofs.Ythkeopkehjkpeaa
