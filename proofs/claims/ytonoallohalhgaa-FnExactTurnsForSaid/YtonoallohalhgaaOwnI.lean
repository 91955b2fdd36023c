/- Rows of numbers of the call's own. Condition: at most 1048576 nodes. -/
import Derived.Test.YtonoallohalhgaaQuot
import Derived.Test.YtonoallohalhgaaReads
namespace Go.Proofs.Ytonoallohalhgaa
open Go.RowKit
set_option linter.unusedSimpArgs false
set_option linter.unusedVariables false
/-- numbers in a row of the call's own -/
def OwnI (w : World) (base : Nat) (v : Value) (zs : List Int) : Prop := w.ownsRow base 3 1 v zs.length (zs.map (Value.int .i64))
theorem OwnI.nil (w : World) (base : Nat) : OwnI w base (.slice none 0 0) [] := World.ownsRow_nil w base 3 1
theorem OwnI.new {w W : World} (h : Below w.heap.size w W) : OwnI (W.alloc (.cells #[] 3)) w.heap.size (.slice (some ⟨W.heap.size, 0, none⟩) 0 0) [] :=
  ⟨by simp, .inr ⟨W.heap.size, 0, #[], rfl, h.size, Go.Deep.blk_alloc_new _ _, Nat.le_refl _, by unfold maxLen; omega, rfl, rfl⟩⟩
theorem OwnI.one {w W : World} (h : Below w.heap.size w W) (z : Int) : (W.alloc (.cells #[.int .i64 z] 3)).ownsRow w.heap.size 3 1 (.slice (some ⟨W.heap.size, 0, none⟩) 1 1) 1 [.int .i64 z] :=
  ⟨by simp, .inr ⟨W.heap.size, 1, #[.int .i64 z], rfl, h.size, Go.Deep.blk_alloc_new _ _, Nat.le_refl _, by unfold maxLen; omega, rfl, rfl⟩⟩
theorem OwnI.snoc {w : World} {base : Nat} {v : Value} {zs : List Int} {z : Int} (h : w.ownsRow base 3 1 v (zs.length + 1) (zs.map (Value.int .i64) ++ [.int .i64 z])) : OwnI w base v (zs ++ [z]) := by
  unfold OwnI; rw [List.length_append, List.map_append]; exact h
theorem OwnI.cons {w : World} {base : Nat} {v : Value} {zs : List Int} {z : Int} (h : w.ownsRow base 3 1 v (1 + zs.length) ([.int .i64 z] ++ zs.map (Value.int .i64))) : OwnI w base v (z :: zs) := by
  unfold OwnI; rw [List.length_cons, Nat.add_comm]; exact h
theorem OwnI.ints {w : World} {base : Nat} {v : Value} {zs : List Int} (h : OwnI w base v zs) : ∃ (b : Option Addr) (cap : Nat), v = .slice b zs.length cap ∧ IsInts w b zs := own_ints h
theorem OwnI.of_block {w w' : World} {base : Nat} {v : Value} {zs : List Int} (h : OwnI w base v zs) (hb : Below w.heap.size w w') : OwnI w' base v zs := by
  refine ⟨h.1, ?_⟩
  rcases h.2 with h0 | ⟨g, cap, cur, hv, hg, hb0, r⟩
  · exact .inl h0
  · exact .inr ⟨g, cap, cur, hv, hg, (hb.block g (Blk.lt hb0)).trans hb0, r⟩
theorem own_lower {w : World} {a b : Nat} {v : Value} {zs : List Int} (h : OwnI w b v zs) (hab : a ≤ b) : OwnI w a v zs := by
  refine ⟨h.1, ?_⟩
  rcases h.2 with h0 | ⟨g, cap, cur, hv, hg, r⟩
  · exact .inl h0
  · exact .inr ⟨g, cap, cur, hv, Nat.le_trans hab hg, r⟩
/-- what a function that hands back numbers leaves -/
def OutI (w : World) (R : List Int) (e : Ending) (w' : World) : Prop := ∃ v, e = .returned v ∧ OwnI w' w.heap.size v R ∧ Below w.heap.size w w'
theorem outI_nil {w w' : World} (h : Below w.heap.size w w') : OutI w [] (.returned (.slice none 0 0)) w' := ⟨_, rfl, OwnI.nil _ _, h⟩
theorem OwnI.grow {W : World} {base : Nat} {v : Value} {zs : List Int} (h : OwnI W base v zs) : ∀ q, v.ownBlock = some q → base ≤ q := fun q hq => (World.ownsRow.lt h q hq).1
end Go.Proofs.Ytonoallohalhgaa
