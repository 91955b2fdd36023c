/- SplitByRest, impl's and spec's. Condition: at most 1048576 numbers. -/
import Derived.Test.YtigapnbpgbfbhacGrA
namespace Go.Proofs.Ytigapnbpgbfbhac
open Go.RowKit

theorem row_set {w : World} {g : Nat} {zs : List Int} (h : Row w g zs) (k : Nat) (z : Int) (hk : k < zs.length) : Row (w.setCell ⟨g, k, none⟩ (.int .i64 z)) g (zs.set k z) := by
  unfold Row at *
  rw [List.length_set]
  exact (World.rowIs.set h k (.int .i64 z)).congr (fun j hj => by
    show (if j = k then Value.int .i64 z else .int .i64 (zs.getD j 0)) = _
    rw [getD_set _ _ _ hk]; split <;> rfl)
theorem row_skip {w : World} {g g' : Nat} {zs : List Int} (h : Row w g zs) (k : Nat) (v : Value) (hne : g' ≠ g) : Row (w.setCell ⟨g', k, none⟩ v) g zs :=
  World.rowIs.of_block h (Below.heap_setCell w ⟨g', k, none⟩ v g (fun e => by first | exact hne e | exact hne e.symm))
theorem pickB_at (R : Nat → Nat → Bool) {k n : Nat} (h : k < n) : pickB R k < n := by
  by_cases h0 : k = 0
  · subst h0; exact h
  · exact Nat.lt_trans (pickB_lt' (by omega)) h

/-- what a division leaves -/
def Divd (m : Nat) (R : List Int) (w : World) (e : Ending) (w' : World) : Prop := ∃ g : Nat, e = .returned (.slice (some ⟨g, 0, none⟩) m m) ∧ w.heap.size ≤ g ∧ Row w' g R ∧ Below w.heap.size w w'

theorem isumN (m : Nat) (a : Option Addr) (cap : Nat) (zs : List Int) (w : World) (hl : zs.length = m) (h : IsInts w a zs) (hn : m ≤ 1048576) (hz : ∀ z ∈ zs, -1000000 ≤ z ∧ z ≤ 1000000) :
    Calls Try.prog 64 #[.slice a m cap] w fun e w' => e = .returned (.int .i64 zs.sum) ∧ w = w' := by
  subst hl; exact isum a cap zs w h hn hz
theorem r_bd {n : Int} {ws : List Int} (h : csB n ws = true) {k : Nat} (hk : k < ws.length) : 0 ≤ n * ws.getD k 0 ∧ n * ws.getD k 0 ≤ 500000 := (q_bd h hk).2.2
end Go.Proofs.Ytigapnbpgbfbhac
