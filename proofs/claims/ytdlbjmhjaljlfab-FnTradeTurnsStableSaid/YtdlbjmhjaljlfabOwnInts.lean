/- Rows of integers that the call makes; the laws' copies and comparisons of slices. Condition: at most 1048576 numbers. -/
import Derived.Test.YtdlbjmhjaljlfabInts
import Derived.Deep.OwnRows
namespace Go.Proofs.Ytdlbjmhjaljlfab
open Go.RowKit

theorem below_drewN {B : Nat} {a w : World} (h : Below B a w) (n : Nat) : Below B a (w.drewN n) := ⟨h.os, h.tape, h.output, h.size, h.block⟩
theorem infoInt : (Try.prog.info? 3).map (fun i => (i.zero, i.size, i.bytes)) = some (some (.int .i64 0), 1, 8) := by kernel_rfl

/-- block g is the row of the numbers zs -/
def Row (w : World) (g : Nat) (zs : List Int) : Prop := w.rowIs g 3 zs.length (fun i => .int .i64 (zs.getD i 0))
theorem row_ints {w : World} {g : Nat} {zs : List Int} (h : Row w g zs) : IsInts w (some ⟨g, 0, none⟩) zs := .inr ⟨g, 0, rfl, fun i hi => by
  have := World.rowIs.cell h hi
  simpa using this⟩
theorem row_keep {w w' : World} {g : Nat} {zs : List Int} (h : Row w g zs) (hB : Below w.heap.size w w') : Row w' g zs := World.rowIs.of_block h (hB.block g (World.rowIs.lt h))
theorem ints_below {w w' : World} {a : Option Addr} {zs : List Int} (h : IsInts w a zs) (hB : Below w.heap.size w w') : IsInts w' a zs := by
  rcases h with h | ⟨g, o, ha, hc⟩
  · exact .inl h
  · exact .inr ⟨g, o, ha, fun i hi => (hB.cell (p := ⟨g, o + i, none⟩) (World.block_lt_of_cell? w _ (hc i hi))).trans (hc i hi)⟩

/-- what toIntS leaves -/
def Copied (w : World) (zs : List Int) (e : Ending) (w' : World) : Prop := ∃ g : Nat, e = .returned (.slice (some ⟨g, 0, none⟩) zs.length zs.length) ∧ w.heap.size ≤ g ∧ Row w' g zs ∧ Below w.heap.size w w'

/-- a slice that came in is read as its numbers -/
theorem row_is {w : World} {a : Option Addr} {len cap : Nat} {z : List Int} (h : IsRow .i64 w a len cap z) : ∃ zs : List Int, zs.length = len ∧ IsInts w a zs := by
  rcases h with ⟨rfl, rfl, rfl, rfl⟩ | ⟨x, rfl, hl, hm, hz, hcell, hwz⟩
  · exact ⟨[], rfl, .inl rfl⟩
  · refine ⟨z.take len, by rw [List.length_take]; omega, ?_⟩
    by_cases h0 : len = 0
    · subst h0; exact .inl (by simp)
    · obtain ⟨b, off, spot⟩ := x
      have hc := hcell 0 (by omega)
      have hspot : spot = none := by simpa [Addr.add] using World.cell?_spot hc
      subst hspot
      refine .inr ⟨b, off, rfl, fun i hi => ?_⟩
      have hi' : i < len := by rw [List.length_take] at hi; omega
      have hci := hcell i (by omega)
      have e : (z.take len).getD i 0 = z.getD i 0 := by
        rw [List.getD_eq_getElem?_getD, List.getD_eq_getElem?_getD, List.getElem?_take_of_lt hi']
      rw [e]
      by_cases hi0 : i = 0
      · subst hi0; simpa [Addr.add] using hci
      · simpa [Addr.add, hi0] using hci
end Go.Proofs.Ytdlbjmhjaljlfab
