/- A part that goes from one owner to another, by impl. Condition: at most 1000 holdings. -/
import Derived.Test.YtpkjnhpgeajgoaaSetI
import Derived.Test.YtpkjnhpgeajgoaaShareOf
import Derived.Deep.RegionHeld3
import Derived.Deep.DeepCutAuto
namespace Go.Proofs.Ytpkjnhpgeajgoaa
open Go.RowKit

/-- shares of L, as fractions -/
theorem sub_led {L : Led} (hf : ∀ x ∈ L, frB x.2 = true) (o : Int) {p : Rat} (hp : frB p = true) :
    (Wsh.vfB (shareL L o).num ((shareL L o).den : Int) && Wsh.vfB p.num (p.den : Int) && Wsh.redB ((shareL L o).num * (p.den : Int) - p.num * ((shareL L o).den : Int)) (((shareL L o).den : Int) * (p.den : Int))) = frB (shareL L o - p) ∧
    Wsh.rn ((shareL L o).num * (p.den : Int) - p.num * ((shareL L o).den : Int)) (((shareL L o).den : Int) * (p.den : Int)) = (shareL L o - p).num ∧ Wsh.rd ((shareL L o).num * (p.den : Int) - p.num * ((shareL L o).den : Int)) (((shareL L o).den : Int) * (p.den : Int)) = ((shareL L o - p).den : Int) := by
  obtain ⟨a, b, c⟩ := sub_red (shareL L o) p
  exact ⟨by rw [q_vf (share_frA hf o), q_vf hp, a]; rfl, b, c⟩
theorem add_led {L : Led} (hf : ∀ x ∈ L, frB x.2 = true) (o : Int) {p : Rat} (hp : frB p = true) :
    (Wsh.vfB (shareL L o).num ((shareL L o).den : Int) && Wsh.vfB p.num (p.den : Int) && Wsh.redB ((shareL L o).num * (p.den : Int) + p.num * ((shareL L o).den : Int)) (((shareL L o).den : Int) * (p.den : Int))) = frB (shareL L o + p) ∧
    Wsh.rn ((shareL L o).num * (p.den : Int) + p.num * ((shareL L o).den : Int)) (((shareL L o).den : Int) * (p.den : Int)) = (shareL L o + p).num ∧ Wsh.rd ((shareL L o).num * (p.den : Int) + p.num * ((shareL L o).den : Int)) (((shareL L o).den : Int) * (p.den : Int)) = ((shareL L o + p).den : Int) := by
  obtain ⟨a, b, c⟩ := add_red (shareL L o) p
  exact ⟨by rw [q_vf (share_frA hf o), q_vf hp, a]; rfl, b, c⟩
theorem keepM {w W wq : World} {x y : Value} (hb : Below W.heap.size W wq) (h : W.cell? ⟨w.heap.size, 0, none⟩ = some x ∧ W.cell? ⟨w.heap.size, 1, none⟩ = some y ∧ Below w.heap.size w W) : wq.cell? ⟨w.heap.size, 0, none⟩ = some x ∧ wq.cell? ⟨w.heap.size, 1, none⟩ = some y ∧ Below w.heap.size w wq :=
  ⟨(hb.cell (World.block_lt_of_cell? W _ h.1)).trans h.1, (hb.cell (World.block_lt_of_cell? W _ h.2.1)).trans h.2.1, bel_tr h.2.2 hb⟩
theorem keepMset {w W : World} {x y u v : Value} {b : Nat} (h : W.cell? ⟨w.heap.size, 0, none⟩ = some x ∧ W.cell? ⟨w.heap.size, 1, none⟩ = some y ∧ Below w.heap.size w W) (hlt : w.heap.size < b) : ((W.setCell ⟨b, 0, none⟩ u).setCell ⟨b, 1, none⟩ v).cell? ⟨w.heap.size, 0, none⟩ = some x ∧ ((W.setCell ⟨b, 0, none⟩ u).setCell ⟨b, 1, none⟩ v).cell? ⟨w.heap.size, 1, none⟩ = some y ∧ Below w.heap.size w ((W.setCell ⟨b, 0, none⟩ u).setCell ⟨b, 1, none⟩ v) := by
  have hq : ∀ (V : World) (k l : Nat) (z : Value), (V.setCell ⟨b, k, none⟩ z).cell? ⟨w.heap.size, l, none⟩ = V.cell? ⟨w.heap.size, l, none⟩ := fun V k l z => World.cell?_setCell_other V _ _ z (fun e => by injection e with e; omega)
  exact ⟨by rw [hq, hq]; exact h.1, by rw [hq, hq]; exact h.2.1, (h.2.2.setCell (Nat.le_of_lt hlt) _).setCell (Nat.le_of_lt hlt) _⟩

theorem keepMR {w W : World} {x y : Value} {o o' : Obj} (h : (W.alloc o).cell? ⟨w.heap.size, 0, none⟩ = some x ∧ (W.alloc o).cell? ⟨w.heap.size, 1, none⟩ = some y ∧ Below w.heap.size w (W.alloc o)) (hB : Below w.heap.size w W) (hlt : w.heap.size < W.heap.size) : (W.alloc o').cell? ⟨w.heap.size, 0, none⟩ = some x ∧ (W.alloc o').cell? ⟨w.heap.size, 1, none⟩ = some y ∧ Below w.heap.size w (W.alloc o') := by
  have e : ∀ (l : Nat) (o : Obj), (W.alloc o).cell? ⟨w.heap.size, l, none⟩ = W.cell? ⟨w.heap.size, l, none⟩ := fun l o => World.cell?_alloc_lt W o ⟨w.heap.size, l, none⟩ hlt
  rw [e, e] at h
  exact ⟨by rw [e]; exact h.1, by rw [e]; exact h.2.1, hB.alloc (Nat.le_of_lt hlt) _⟩

theorem blk_second (w : World) (o : Obj) (t : TypeId) (cs : Array Value) : Blk ((w.alloc o).alloc (.cells cs t)) (w.heap.size + 1) t cs := by
  have := Blk.new (w.alloc o) t cs
  rw [World.size_alloc] at this
  exact this
theorem keepN {w W wq : World} {x y u v : Value} {k : Nat} (hb : Below W.heap.size W wq) (h : W.cell? ⟨w.heap.size, 0, none⟩ = some x ∧ W.cell? ⟨w.heap.size, 1, none⟩ = some y ∧ W.cell? ⟨k, 0, none⟩ = some u ∧ W.cell? ⟨k, 1, none⟩ = some v ∧ Below w.heap.size w W) : wq.cell? ⟨w.heap.size, 0, none⟩ = some x ∧ wq.cell? ⟨w.heap.size, 1, none⟩ = some y ∧ wq.cell? ⟨k, 0, none⟩ = some u ∧ wq.cell? ⟨k, 1, none⟩ = some v ∧ Below w.heap.size w wq := by
  have n : ∀ {p : Addr} {v : Value}, W.cell? p = some v → wq.cell? p = some v := fun h => (hb.cell (World.block_lt_of_cell? W _ h)).trans h
  exact ⟨n h.1, n h.2.1, n h.2.2.1, n h.2.2.2.1, bel_tr h.2.2.2.2 hb⟩
theorem keepNb {w W : World} {x y u v : Value} {k : Nat} (h : W.cell? ⟨w.heap.size, 0, none⟩ = some x ∧ W.cell? ⟨w.heap.size, 1, none⟩ = some y ∧ W.cell? ⟨k, 0, none⟩ = some u ∧ W.cell? ⟨k, 1, none⟩ = some v ∧ Below w.heap.size w W) : Below w.heap.size w W := h.2.2.2.2

end Go.Proofs.Ytpkjnhpgeajgoaa
