/- Marks in rows of numbers of the call's own. Condition: at most 1048576 numbers. -/
import Derived.Test.YtbmpcggdkeakeaaOwnI
import Derived.Test.YtbmpcggdkeakeaaFlat
import Derived.Test.YtbmpcggdkeakeaaMarks
namespace Go.Proofs.Ytbmpcggdkeakeaa
open Go.RowKit
set_option linter.unusedSimpArgs false
set_option linter.unusedVariables false
theorem OwnI.at_ {w : World} {base n c : Nat} {b : Option Addr} {zs : List Int} (h : OwnI w base (.slice b n c) zs) : IsInts w b zs := by
  obtain ⟨b', c', e, hi⟩ := OwnI.ints h
  injection e with e1 e2 e3
  subst e1; exact hi
theorem OwnI.len_ {w : World} {base n c : Nat} {b : Option Addr} {zs : List Int} (h : OwnI w base (.slice b n c) zs) : n = zs.length := by
  obtain ⟨b', c', e, hi⟩ := OwnI.ints h
  injection e with e1 e2 e3
theorem OwnI.apart {w w' : World} {base : Nat} {v : Value} {zs : List Int} {row : Option Nat} (h : OwnI w base v zs) (hg : w.grownBy w' row) (hr : ∀ q, row = some q → q < base) : OwnI w' base v zs :=
  World.ownsRow.kept h hg (by
    cases e : v.ownBlock with
    | none => exact .inl rfl
    | some k =>
      refine .inr (fun c => ?_)
      have a := hr k c.symm
      have b := (World.ownsRow.lt h k e).1
      omega)
theorem below_gv {w a b : World} {row : Option Nat} (h : Below w.heap.size w a) (hG : a.grownBy b row) (hg : ∀ q, row = some q → w.heap.size ≤ q) : Below w.heap.size w b := h.grown hG h.size hg
theorem vals_set (zs : List Int) (j : Nat) (z : Int) : (zs.map (Value.int .i64)).set j (.int .i64 z) = (zs.set j z).map (Value.int .i64) := by rw [List.map_set]
end Go.Proofs.Ytbmpcggdkeakeaa
