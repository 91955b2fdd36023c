/- Holdings that are read: owners that ascend, sums, valid ledgers, shares. Condition: at most 1048576 holdings. -/
import Derived.Test.YtbmpcggdkeakeaaOwnInts
import Derived.Test.YtbmpcggdkeakeaaFrac
import Derived.Test.YtbmpcggdkeakeaaSetH
namespace Go.Proofs.Ytbmpcggdkeakeaa
open Go.RowKit

/-- holdings hs, read through a slice at address a -/
def IsHs (w : World) (a : Option Addr) (hs : List Hd) : Prop := hs = [] ∨ ∃ g o, a = some ⟨g, o, none⟩ ∧ ∀ i, i < hs.length → w.cell? ⟨g, o + i * 3, none⟩ = some (.int .i64 (hs.getD i hd0).1) ∧ w.cell? ⟨g, o + i * 3 + 1, none⟩ = some (.int .i64 (hs.getD i hd0).2.1) ∧ w.cell? ⟨g, o + i * 3 + 2, none⟩ = some (.int .i64 (hs.getD i hd0).2.2)
theorem hs_below {w w' : World} {a : Option Addr} {hs : List Hd} (h : IsHs w a hs) (hB : Below w.heap.size w w') : IsHs w' a hs := by
  rcases h with h | ⟨g, o, ha, hc⟩
  · exact .inl h
  · refine .inr ⟨g, o, ha, fun i hi => ?_⟩
    obtain ⟨c0, c1, c2⟩ := hc i hi
    exact ⟨(hB.cell (p := ⟨g, _, none⟩) (World.block_lt_of_cell? w _ c0)).trans c0, (hB.cell (p := ⟨g, _, none⟩) (World.block_lt_of_cell? w _ c1)).trans c1, (hB.cell (p := ⟨g, _, none⟩) (World.block_lt_of_cell? w _ c2)).trans c2⟩

theorem okA_def (hs : List Hd) (k : Nat) : okA hs k = (decide (prevO hs k < (hs.getD k hd0).1) && decide (1 ≤ (hs.getD k hd0).1) && decide ((hs.getD k hd0).1 ≤ 999)) := rfl
theorem prev_succ (hs : List Hd) (k : Nat) : prevO hs (k + 1) = (hs.getD k hd0).1 := by unfold prevO; rw [if_neg (by omega)]; rfl

end Go.Proofs.Ytbmpcggdkeakeaa
