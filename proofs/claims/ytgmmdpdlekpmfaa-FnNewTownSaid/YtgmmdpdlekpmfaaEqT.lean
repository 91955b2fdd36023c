/- equalTurns of the laws: equal turns are equal. Condition: at most 1048576 of them. -/
import Derived.Test.YtgmmdpdlekpmfaaGrB
import Derived.Test.YtgmmdpdlekpmfaaGrA
import Derived.Deep.RegionHeld3
import Derived.Deep.QuietTactic
import Derived.Deep.DeepCutAuto
namespace Go.Proofs.Ytgmmdpdlekpmfaa
open Go.RowKit

set_option maxHeartbeats 2000000 in
theorem eqTn (a b : Option Addr) (ca cb : Nat) (xs : List Tn) (w : World) (ha : IsTn w a xs) (hb : IsTn w b xs) (hn : xs.length ≤ 1048576) :
    Calls Try.prog 72 #[.slice a xs.length ca, .slice b xs.length cb] w fun e w' => e = .returned (.bool true) ∧ Below w.heap.size w w' := by
  rcases ha with rfl | ⟨g, o, rfl, hc⟩
  · go_enter Try.func72, Try.ntmps72
    go_wp2
    go_rounds 1
    go_ret
    exact ⟨rfl, by go_grown⟩
  · rcases hb with rfl | ⟨g2, o2, rfl, hc2⟩
    · go_enter Try.func72, Try.ntmps72
      go_wp2
      go_rounds 1
      go_ret
      exact ⟨rfl, by go_grown⟩
    · have HC := Lib.hid hc
      have HD := Lib.hid hc2
      clear hc hc2
      go_enter Try.func72, Try.ntmps72
      go_wp2
      go_loopw [5] (fun i wr => ∃ k : Nat, k ≤ xs.length ∧ i = .int .i64 k ∧ Below w.heap.size w wr) (fun i _ => xs.length - (intOf i).toNat)
      case atStart => exact ⟨0, Nat.zero_le _, rfl, by go_grown⟩
      case round =>
        obtain ⟨k, hk, rfl, hB⟩ := hrel
        by_cases hlt : k < xs.length
        · obtain ⟨c0, c1⟩ := tn_at HC.out hB hlt
          obtain ⟨d0, d1⟩ := tn_at HD.out hB hlt
          generalize xs.getD k tn0 = hh at c0 c1 d0 d1
          obtain ⟨x0, x1⟩ := hh
          dsimp only at c0 c1 d0 d1
          have HB := Lib.hid hB
          clear hB
          have i0 : (0 : Int) ≤ (k : Int) := by omega
          have i1 : (k : Int) < (xs.length : Int) := by omega
          go_wp2_with fail
          go_quiet (fail)
          go_wp2_with fail
          go_roundw
          case rel => exact ⟨k + 1, by omega, by go_num, below_drewN HB.out _⟩
          case measure => simp [intOf]; omega
        · obtain rfl : k = xs.length := by omega
          go_wp2_with fail
          go_ret
          exact ⟨rfl, hB⟩
end Go.Proofs.Ytgmmdpdlekpmfaa
