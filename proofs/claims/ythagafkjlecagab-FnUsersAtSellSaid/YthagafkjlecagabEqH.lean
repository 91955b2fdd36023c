/- equalLedger of the laws: equal ledgers are equal. Condition: at most 1048576 of them. -/
import Derived.Test.YthagafkjlecagabGrA
import Derived.Test.YthagafkjlecagabRead
import Derived.Deep.RegionHeld3
import Derived.Deep.QuietTactic
import Derived.Deep.DeepCutAuto
namespace Go.Proofs.Ythagafkjlecagab
open Go.RowKit

theorem hs_at {w W : World} {g o : Nat} {hs : List Hd} (hc : ∀ i, i < hs.length → w.cell? ⟨g, o + i * 3, none⟩ = some (.int .i64 (hs.getD i hd0).1) ∧ w.cell? ⟨g, o + i * 3 + 1, none⟩ = some (.int .i64 (hs.getD i hd0).2.1) ∧ w.cell? ⟨g, o + i * 3 + 2, none⟩ = some (.int .i64 (hs.getD i hd0).2.2)) (hB : Below w.heap.size w W) {k : Nat} (hk : k < hs.length) : W.cell? ⟨g, o + k * 3, none⟩ = some (.int .i64 (hs.getD k hd0).1) ∧ W.cell? ⟨g, o + k * 3 + 1, none⟩ = some (.int .i64 (hs.getD k hd0).2.1) ∧ W.cell? ⟨g, o + k * 3 + 2, none⟩ = some (.int .i64 (hs.getD k hd0).2.2) := by
  obtain ⟨c0, c1, c2⟩ := hc k hk
  exact ⟨(hB.cell (World.block_lt_of_cell? w _ c0)).trans c0, (hB.cell (World.block_lt_of_cell? w _ c1)).trans c1, (hB.cell (World.block_lt_of_cell? w _ c2)).trans c2⟩
set_option maxHeartbeats 2000000 in
theorem eqHd (a b : Option Addr) (ca cb : Nat) (xs : List Hd) (w : World) (ha : IsHs w a xs) (hb : IsHs w b xs) (hn : xs.length ≤ 1048576) :
    Calls Try.prog 25 #[.slice a xs.length ca, .slice b xs.length cb] w fun e w' => e = .returned (.bool true) ∧ Below w.heap.size w w' := by
  rcases ha with rfl | ⟨g, o, rfl, hc⟩
  · go_enter Try.func25, Try.ntmps25
    go_wp2
    go_rounds 1
    go_ret
    exact ⟨rfl, by go_grown⟩
  · rcases hb with rfl | ⟨g2, o2, rfl, hc2⟩
    · go_enter Try.func25, Try.ntmps25
      go_wp2
      go_rounds 1
      go_ret
      exact ⟨rfl, by go_grown⟩
    · have HC := Lib.hid hc
      have HD := Lib.hid hc2
      clear hc hc2
      go_enter Try.func25, Try.ntmps25
      go_wp2
      go_loopw [5] (fun i wr => ∃ k : Nat, k ≤ xs.length ∧ i = .int .i64 k ∧ Below w.heap.size w wr) (fun i _ => xs.length - (intOf i).toNat)
      case atStart => exact ⟨0, Nat.zero_le _, rfl, by go_grown⟩
      case round =>
        obtain ⟨k, hk, rfl, hB⟩ := hrel
        by_cases hlt : k < xs.length
        · obtain ⟨c0, c1, c2⟩ := hs_at HC.out hB hlt
          obtain ⟨d0, d1, d2⟩ := hs_at HD.out hB hlt
          generalize xs.getD k hd0 = hh at c0 c1 c2 d0 d1 d2
          obtain ⟨x0, x1, x2⟩ := hh
          dsimp only at c0 c1 c2 d0 d1 d2
          have HB := Lib.hid hB
          clear hB
          have i0 : (0 : Int) ≤ (k : Int) := by omega
          have i1 : (k : Int) < (xs.length : Int) := by omega
          go_wp2_with fail
          go_quiet (fail)
          go_wp2_with fail
          go_roundw
          case rel => exact ⟨k + 1, by omega, by go_num, below_drewN HB.out _⟩
          case measure => simp [intOf]; omega
        · obtain rfl : k = xs.length := by omega
          go_wp2_with fail
          go_ret
          exact ⟨rfl, hB⟩
end Go.Proofs.Ythagafkjlecagab
