/- Claims by the program: valid ones, equal gains, equal losses. Condition: at most 1048576 numbers. -/
import Derived.Test.YtigapnbpgbfbhacClmP
import Derived.Test.YtigapnbpgbfbhacGrA
import Derived.Deep.QuietTactic
import Derived.BigQuiet
namespace Go.Proofs.Ytigapnbpgbfbhac
open Go.RowKit
set_option linter.unusedSimpArgs false
set_option linter.unusedVariables false
/-- numbers that are there, opened -/
theorem ints_open {w : World} {a : Option Addr} {zs : List Int} (h : IsInts w a zs) (hl : 0 < zs.length) : ∃ g o, a = some ⟨g, o, none⟩ ∧ ∀ i, i < zs.length → w.cell? ⟨g, o + i, none⟩ = some (.int .i64 (zs.getD i 0)) := by
  rcases h with rfl | ⟨g, o, rfl, hc⟩
  · simp at hl
  · exact ⟨g, o, rfl, hc⟩
theorem cell_now {w wr : World} {g o i : Nat} {v : Value} (h : w.cell? ⟨g, o + i, none⟩ = some v) (hB : Below w.heap.size w wr) : wr.cell? ⟨g, o + i, none⟩ = some v :=
  (hB.cell (p := ⟨g, o + i, none⟩) (World.block_lt_of_cell? w _ h)).trans h
theorem cell_now0 {w wr : World} {g i : Nat} {v : Value} (h : w.cell? ⟨g, i, none⟩ = some v) (hB : Below w.heap.size w wr) : wr.cell? ⟨g, i, none⟩ = some v :=
  (hB.cell (p := ⟨g, i, none⟩) (World.block_lt_of_cell? w _ h)).trans h
theorem least_skip {cs gs : List Int} {k : Nat} (h : ¬ gs.getD k 0 < cs.getD k 0) : leastTo cs gs (k + 1) = leastTo cs gs k := if_neg (fun c => h c.1)
theorem least_first {cs gs : List Int} {k : Nat} (h : gs.getD k 0 < cs.getD k 0) (e : leastTo cs gs k = -1) : leastTo cs gs (k + 1) = (k : Int) := if_pos ⟨h, .inl (by omega)⟩
theorem least_next {cs gs : List Int} {k q : Nat} (h : gs.getD k 0 < cs.getD k 0) (e : leastTo cs gs k = (q : Int)) : leastTo cs gs (k + 1) = if gs.getD k 0 < gs.getD q 0 then (k : Int) else (q : Int) := by
  show ite _ _ _ = _
  rw [e, show ((q : Int)).toNat = q by omega]
  by_cases c : gs.getD k 0 < gs.getD q 0
  · rw [if_pos ⟨h, .inr c⟩, if_pos c]
  · rw [if_neg (fun x => c (x.2.resolve_left (by omega))), if_neg c]
theorem last_skip {cs gs : List Int} {k : Nat} (h : ¬ 0 < gs.getD k 0) : lastTo cs gs (k + 1) = lastTo cs gs k := if_neg (fun c => h c.1)
theorem last_first {cs gs : List Int} {k : Nat} (h : 0 < gs.getD k 0) (e : lastTo cs gs k = -1) : lastTo cs gs (k + 1) = (k : Int) := if_pos ⟨h, .inl (by omega)⟩
theorem last_next {cs gs : List Int} {k q : Nat} (h : 0 < gs.getD k 0) (e : lastTo cs gs k = (q : Int)) : lastTo cs gs (k + 1) = if cs.getD k 0 - gs.getD k 0 ≤ cs.getD q 0 - gs.getD q 0 then (k : Int) else (q : Int) := by
  show ite _ _ _ = _
  rw [e, show ((q : Int)).toNat = q by omega]
  by_cases c : cs.getD k 0 - gs.getD k 0 ≤ cs.getD q 0 - gs.getD q 0
  · rw [if_pos ⟨h, .inr c⟩, if_pos c]
  · rw [if_neg (fun x => c (x.2.resolve_left (by omega))), if_neg c]
end Go.Proofs.Ytigapnbpgbfbhac
