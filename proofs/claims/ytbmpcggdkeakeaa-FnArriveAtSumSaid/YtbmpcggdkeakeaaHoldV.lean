/- impl.ValidLedger. Condition: at most 1048576 holdings. -/
import Derived.Test.YtbmpcggdkeakeaaHold
namespace Go.Proofs.Ytbmpcggdkeakeaa
open Go.RowKit

/-- block g is just the cells cs -/
def Blk (w : World) (g : Nat) (t : TypeId) (cs : Array Value) : Prop := w.heap[g]? = some (.cells cs t (0, 0))
section
variable {w w' : World} {g : Nat} {t : TypeId} {cs : Array Value}
theorem Blk.lt (h : Blk w g t cs) : g < w.heap.size := by
  rcases Nat.lt_or_ge g w.heap.size with hlt | hge
  · exact hlt
  · unfold Blk at h; rw [Array.getElem?_eq_none hge] at h; cases h
theorem Blk.cell (h : Blk w g t cs) (i : Nat) : w.cell? ⟨g, i, none⟩ = cs[i]? := cell_of_row w g i cs t (0, 0) h
theorem Blk.frozen (h : Blk w g t cs) (i : Nat) : w.frozen? ⟨g, i, none⟩ = false := by
  unfold Blk at h
  simp [World.frozen?, h]
theorem Blk.new (w : World) (t : TypeId) (cs : Array Value) : Blk (w.alloc (.cells cs t)) w.heap.size t cs := heap_alloc_new w _
theorem Blk.alloc (h : Blk w g t cs) (o : Obj) : Blk (w.alloc o) g t cs := (Below.heap_alloc w o g h.lt).trans h
theorem Blk.drewN (h : Blk w g t cs) (n : Nat) : Blk (w.drewN n) g t cs := h
theorem Blk.drew (h : Blk w g t cs) : Blk w.drew g t cs := h
theorem Blk.set_ (h : Blk w g t cs) (i : Nat) (u : Value) : Blk (w.setCell ⟨g, i, none⟩ u) g t (cs.setIfInBounds i u) := by
  unfold Blk at h ⊢
  simp [World.setCell, Array.getElem?_modify, h]
theorem Blk.far (h : Blk w g t cs) {p : Addr} (hp : g ≠ p.block) (u : Value) : Blk (w.setCell p u) g t cs := (Below.heap_setCell w p u g hp).trans h
theorem Blk.below {B : Nat} (h : Blk w g t cs) (hb : Below B w w') (hg : g < B) : Blk w' g t cs := (hb.block g hg).trans h
theorem Blk.next (h : Blk w g t cs) (hb : Below w.heap.size w w') : Blk w' g t cs := h.below hb h.lt
theorem Blk.grown {row : Option Nat} (h : Blk w g t cs) (hb : w.grownBy w' row) (hg : some g ≠ row) : Blk w' g t cs := (hb.block g h.lt hg).trans h
/-- a block of two cells that is written anew -/
theorem Blk.two {x y : Value} (h : Blk w g t #[x, y]) (u v : Value) : Blk ((w.setCell ⟨g, 0, none⟩ u).setCell ⟨g, 1, none⟩ v) g t #[u, v] := (h.set_ 0 u).set_ 1 v
end
theorem vl_no0 {hs : List Hd} (h : 12 < hs.length) : vlR hs = false := by unfold vlR; rw [decide_eq_false (by omega : ¬ hs.length ≤ 12)]; rfl
theorem vl_no1 {hs : List Hd} (h : ascB hs = false) : vlR hs = false := by unfold vlR; rw [h]; simp
theorem vl_no2 {hs : List Hd} {k : Nat} (hk : k < hs.length) (h : okS hs k = false) : vlR hs = false := by unfold vlR allS; rw [rng_no hk h]; simp
theorem vl_end {hs : List Hd} (h1 : hs.length ≤ 12) (h2 : ascB hs = true) (h3 : ∀ j, j < hs.length → okS hs j = true) : vlR hs = decide ((sumQ hs hs.length).num = ((sumQ hs hs.length).den : Int)) := by
  unfold vlR allS
  rw [decide_eq_true h1, h2, rng_yes h3, decide_eq_decide.2 one_iff]; rfl

theorem sum_fr {hs : List Hd} {k : Nat} (h : ∀ j, j < k → okS hs j = true) : frB (sumQ hs k) = true := by
  cases k with
  | zero => exact frB_zero
  | succ k => exact (okS_is (h k (by omega))).2
theorem cells_at {w wr : World} {g o : Nat} {hs : List Hd} (hc : ∀ i, i < hs.length → w.cell? ⟨g, o + i * 3, none⟩ = some (.int .i64 (hs.getD i hd0).1) ∧ w.cell? ⟨g, o + i * 3 + 1, none⟩ = some (.int .i64 (hs.getD i hd0).2.1) ∧ w.cell? ⟨g, o + i * 3 + 2, none⟩ = some (.int .i64 (hs.getD i hd0).2.2)) (hB : Below w.heap.size w wr) {k : Nat} (hk : k < hs.length) :
    wr.cell? ⟨g, o + k * 3, none⟩ = some (.int .i64 (hs.getD k hd0).1) ∧ wr.cell? ⟨g, o + k * 3 + 1, none⟩ = some (.int .i64 (hs.getD k hd0).2.1) ∧ wr.cell? ⟨g, o + k * 3 + 2, none⟩ = some (.int .i64 (hs.getD k hd0).2.2) := by
  obtain ⟨d0, d1, d2⟩ := hc k hk
  exact ⟨(hB.cell (p := ⟨g, _, none⟩) (World.block_lt_of_cell? w _ d0)).trans d0, (hB.cell (p := ⟨g, _, none⟩) (World.block_lt_of_cell? w _ d1)).trans d1, (hB.cell (p := ⟨g, _, none⟩) (World.block_lt_of_cell? w _ d2)).trans d2⟩
theorem blk_two {w : World} {g : Nat} {t : TypeId} {x y : Value} (h : Blk w g t #[x, y]) : w.cell? ⟨g, 0, none⟩ = some x ∧ w.cell? ⟨g, 1, none⟩ = some y ∧ w.frozen? ⟨g, 0, none⟩ = false ∧ w.frozen? ⟨g, 1, none⟩ = false ∧ g < w.heap.size := ⟨h.cell 0, h.cell 1, h.frozen 0, h.frozen 1, h.lt⟩

end Go.Proofs.Ytbmpcggdkeakeaa
