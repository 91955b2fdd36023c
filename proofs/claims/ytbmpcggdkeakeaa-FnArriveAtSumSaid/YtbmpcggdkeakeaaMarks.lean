/- spec.QuotasOf; the marks that the laws write and read. Condition: at most 1048576 numbers. -/
import Derived.Test.YtbmpcggdkeakeaaQuot
namespace Go.Proofs.Ytbmpcggdkeakeaa
open Go.RowKit

/-- 1, 2, 3 .. -/
def marks (n : Nat) : List Int := (List.range n).map fun (i : Nat) => (1 : Int) + (i : Int)
theorem marks_len (n : Nat) : (marks n).length = n := by unfold marks; simp
theorem marks_get (n : Nat) {k : Nat} (h : k < n) : (marks n).getD k 0 = 1 + (k : Int) := by
  unfold marks
  rw [List.getD_eq_getElem?_getD, List.getElem?_map, List.getElem?_range h]; rfl
/-- what markIntS leaves -/
def Marked (w : World) (g n : Nat) (e : Ending) (w' : World) : Prop := e = .returned (.int .i64 (1 + (n : Int))) ∧ Row w' g (marks n) ∧ w.grownBy w' (some g)

theorem row_apart {w w' : World} {g g' : Nat} {zs : List Int} (h : Row w g zs) (hG : w.grownBy w' (some g')) (hne : g ≠ g') : Row w' g zs :=
  World.rowIs.of_block h (hG.block g (World.rowIs.lt h) (fun e => by injection e with e; exact hne e))
end Go.Proofs.Ytbmpcggdkeakeaa
