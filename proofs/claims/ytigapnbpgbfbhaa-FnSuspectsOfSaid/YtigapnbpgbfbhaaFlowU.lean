/- What passes the nodes, by the model. Condition: at most 1048576 nodes. -/
import Derived.Test.YtigapnbpgbfbhaaFlowT
import Derived.Deep.RegionHeld3
namespace Go.Proofs.Ytigapnbpgbfbhaa
open Go.RowKit
set_option linter.unusedSimpArgs false
set_option linter.unusedVariables false
theorem g_transO {a b c : World} {row : Option Nat} (h : a.grownBy b row) (k : b.grownBy c row) : a.grownBy c row :=
  ⟨k.os.trans h.os, k.tape.trans h.tape, k.output.trans h.output, Nat.le_trans h.size k.size, fun i hi hne => (k.block i (Nat.lt_of_lt_of_le hi h.size) hne).trans (h.block i hi hne)⟩
theorem kp6g {W wq v : World} {row : Option Nat} {g0 g5 a0 a1 a2 a3 a4 a5 : Nat} {v0 v1 v2 v3 v4 v5 : Value} (hg : W.grownBy wq row) (n0 : row ≠ some g0) (n5 : row ≠ some g5)
    (h : (W.cell? ⟨g0, a0, none⟩ = some v0 ∧ W.cell? ⟨g0, a1, none⟩ = some v1 ∧ W.cell? ⟨g0, a2, none⟩ = some v2 ∧ W.cell? ⟨g0, a3, none⟩ = some v3 ∧ W.cell? ⟨g0, a4, none⟩ = some v4 ∧ W.cell? ⟨g5, a5, none⟩ = some v5) ∧ v.grownBy W row) : (wq.cell? ⟨g0, a0, none⟩ = some v0 ∧ wq.cell? ⟨g0, a1, none⟩ = some v1 ∧ wq.cell? ⟨g0, a2, none⟩ = some v2 ∧ wq.cell? ⟨g0, a3, none⟩ = some v3 ∧ wq.cell? ⟨g0, a4, none⟩ = some v4 ∧ wq.cell? ⟨g5, a5, none⟩ = some v5) ∧ v.grownBy wq row := by
  obtain ⟨⟨a, b, c, d, e, f⟩, g⟩ := h
  have k : ∀ {q o : Nat} {u : Value}, row ≠ some q → W.cell? ⟨q, o, none⟩ = some u → wq.cell? ⟨q, o, none⟩ = some u := fun hn hp => (World.cell?_of_block (hg.block _ (World.block_lt_of_cell? W _ hp) (fun e => hn e.symm))).trans hp
  exact ⟨⟨k n0 a, k n0 b, k n0 c, k n0 d, k n0 e, k n5 f⟩, g_transO g hg⟩
end Go.Proofs.Ytigapnbpgbfbhaa
