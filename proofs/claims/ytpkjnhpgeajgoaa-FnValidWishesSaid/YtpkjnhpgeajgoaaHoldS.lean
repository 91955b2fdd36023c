/- spec.sumOf and spec.validLedger. Condition: at most 1048576 holdings. -/
import Derived.Test.YtpkjnhpgeajgoaaHoldV
import Derived.Deep.RegionHeld3
import Derived.Deep.DeepCutAuto
namespace Go.Proofs.Ytpkjnhpgeajgoaa
open Go.RowKit

theorem cell_next {w w' : World} {p : Addr} {v : Value} (hb : Below w.heap.size w w') (h : w.cell? p = some v) : w'.cell? p = some v := (hb.cell (World.block_lt_of_cell? w _ h)).trans h
theorem keep4 {w w' : World} {p q r s : Addr} {u v x y : Value} (hb : Below w.heap.size w w') (h : w.cell? p = some u ∧ w.cell? q = some v ∧ w.cell? r = some x ∧ w.cell? s = some y) : w'.cell? p = some u ∧ w'.cell? q = some v ∧ w'.cell? r = some x ∧ w'.cell? s = some y := ⟨cell_next hb h.1, cell_next hb h.2.1, cell_next hb h.2.2.1, cell_next hb h.2.2.2⟩
theorem keep2 {w w' : World} {p q : Addr} {u v : Value} (hb : Below w.heap.size w w') (h : w.cell? p = some u ∧ w.cell? q = some v) : w'.cell? p = some u ∧ w'.cell? q = some v := ⟨cell_next hb h.1, cell_next hb h.2⟩
def allQ (hs : List Hd) : Bool := (List.range hs.length).all (fun j => frB (sumQ hs (j + 1)))
def SumV (w : World) (hs : List Hd) (e : Ending) (w' : World) : Prop := e = .returned (.tuple #[.agg #[.int .i64 (Wsh.qn (allQ hs) (sumQ hs hs.length).num), .int .i64 (Wsh.qn (allQ hs) ((sumQ hs hs.length).den : Int))], .bool (allQ hs)]) ∧ Below w.heap.size w w'

theorem keep4r {w w' : World} {p q r s : Addr} {u v x y : Value} (h : w.cell? p = some u ∧ w.cell? q = some v ∧ w.cell? r = some x ∧ w.cell? s = some y) (hb : Below w.heap.size w w') : w'.cell? p = some u ∧ w'.cell? q = some v ∧ w'.cell? r = some x ∧ w'.cell? s = some y := keep4 hb h
theorem vl_all {hs : List Hd} (h1 : ascB hs = true) (h2 : allF hs = true) : vlR hs = (allQ hs && decide (sumQ hs hs.length = 1) && decide (hs.length ≤ 12)) := by
  have e : allS hs = allQ hs := by
    unfold allS allQ
    rw [Bool.eq_iff_iff, rng_all, rng_all]
    unfold allF at h2; rw [rng_all] at h2
    exact ⟨fun h j hj => (okS_is (h j hj)).2, fun h j hj => okS_yes (h2 j hj) (h j hj)⟩
  unfold vlR
  rw [h1, e]
  cases allQ hs <;> cases decide (sumQ hs hs.length = 1) <;> cases decide (hs.length ≤ 12) <;> rfl
theorem vl_noF {hs : List Hd} {k : Nat} (hk : k < hs.length) (h : okF hs k = false) : vlR hs = false := vl_no2 hk (okS_no h)
theorem vl_noA {hs : List Hd} {k : Nat} (hk : k < hs.length) (h : okA hs k = false) : vlR hs = false := vl_no1 (rng_no hk h)

end Go.Proofs.Ytpkjnhpgeajgoaa
