/- A part that goes from one owner to another, by impl. Condition: at most 1000 holdings. -/
import Derived.Test.YtaehemmjemhgpaaPCSetI
import Derived.Test.YtaehemmjemhgpaaPCG3
import Derived.Deep.RegionHeld3
import Derived.Deep.DeepCutAuto
set_option maxRecDepth 100000
set_option maxHeartbeats 16000000
namespace Go.Proofs.Ytaehemmjemhgpaa
open Go.RowKit

theorem sub_led {L : Led} (hf : ∀ x ∈ L, frB x.2 = true) (o : Int) {p : Rat} (hp : frB p = true) :
  (Wsh.vfB (jq6 L o).num ((jq6 L o).den : Int) && Wsh.vfB p.num (p.den : Int) && Wsh.redB ((jq6 L o).num * (p.den : Int) - p.num * ((jq6 L o).den : Int)) (((jq6 L o).den : Int) * (p.den : Int))) = frB (jq6 L o - p) ∧
  Wsh.rn ((jq6 L o).num * (p.den : Int) - p.num * ((jq6 L o).den : Int)) (((jq6 L o).den : Int) * (p.den : Int)) = (jq6 L o - p).num ∧ Wsh.rd ((jq6 L o).num * (p.den : Int) - p.num * ((jq6 L o).den : Int)) (((jq6 L o).den : Int) * (p.den : Int)) = ((jq6 L o - p).den : Int) := by
 obtain ⟨a, b, c⟩ := sub_red (jq6 L o) p; exact ⟨by rw [q_vf (share_frA hf o), q_vf hp, a]; rfl, b, c⟩
theorem add_led {L : Led} (hf : ∀ x ∈ L, frB x.2 = true) (o : Int) {p : Rat} (hp : frB p = true) :
  (Wsh.vfB (jq6 L o).num ((jq6 L o).den : Int) && Wsh.vfB p.num (p.den : Int) && Wsh.redB ((jq6 L o).num * (p.den : Int) + p.num * ((jq6 L o).den : Int)) (((jq6 L o).den : Int) * (p.den : Int))) = frB (jq6 L o + p) ∧
  Wsh.rn ((jq6 L o).num * (p.den : Int) + p.num * ((jq6 L o).den : Int)) (((jq6 L o).den : Int) * (p.den : Int)) = (jq6 L o + p).num ∧ Wsh.rd ((jq6 L o).num * (p.den : Int) + p.num * ((jq6 L o).den : Int)) (((jq6 L o).den : Int) * (p.den : Int)) = ((jq6 L o + p).den : Int) := by
 obtain ⟨a, b, c⟩ := add_red (jq6 L o) p; exact ⟨by rw [q_vf (share_frA hf o), q_vf hp, a]; rfl, b, c⟩
theorem keepM {w W wq : World} {x y : Value} (hb : Below W.heap.size W wq) (h : W.cell? ⟨w.heap.size, 0, none⟩ = some x ∧ W.cell? ⟨w.heap.size, 1, none⟩ = some y ∧ Below w.heap.size w W) : wq.cell? ⟨w.heap.size, 0, none⟩ = some x ∧ wq.cell? ⟨w.heap.size, 1, none⟩ = some y ∧ Below w.heap.size w wq :=
 ⟨(hb.cell (World.block_lt_of_cell? W _ h.1)).trans h.1, (hb.cell (World.block_lt_of_cell? W _ h.2.1)).trans h.2.1, jq2 h.2.2 hb⟩
theorem keepMset {w W : World} {x y u v : Value} {b : Nat} (h : W.cell? ⟨w.heap.size, 0, none⟩ = some x ∧ W.cell? ⟨w.heap.size, 1, none⟩ = some y ∧ Below w.heap.size w W) (hlt : w.heap.size < b) : ((W.setCell ⟨b, 0, none⟩ u).setCell ⟨b, 1, none⟩ v).cell? ⟨w.heap.size, 0, none⟩ = some x ∧ ((W.setCell ⟨b, 0, none⟩ u).setCell ⟨b, 1, none⟩ v).cell? ⟨w.heap.size, 1, none⟩ = some y ∧ Below w.heap.size w ((W.setCell ⟨b, 0, none⟩ u).setCell ⟨b, 1, none⟩ v) := by
 have hq : ∀ (V : World) (k l : Nat) (z : Value), (V.setCell ⟨b, k, none⟩ z).cell? ⟨w.heap.size, l, none⟩ = V.cell? ⟨w.heap.size, l, none⟩ := fun V k l z => World.cell?_setCell_other V _ _ z (fun e => by injection e with e; omega)
 exact ⟨by rw [hq, hq]; exact h.1, by rw [hq, hq]; exact h.2.1, (h.2.2.setCell (Nat.le_of_lt hlt) _).setCell (Nat.le_of_lt hlt) _⟩

theorem keepMR {w W : World} {x y : Value} {o o' : Obj} (h : (W.alloc o).cell? ⟨w.heap.size, 0, none⟩ = some x ∧ (W.alloc o).cell? ⟨w.heap.size, 1, none⟩ = some y ∧ Below w.heap.size w (W.alloc o)) (hB : Below w.heap.size w W) (hlt : w.heap.size < W.heap.size) : (W.alloc o').cell? ⟨w.heap.size, 0, none⟩ = some x ∧ (W.alloc o').cell? ⟨w.heap.size, 1, none⟩ = some y ∧ Below w.heap.size w (W.alloc o') := by
 have e : ∀ (l : Nat) (o : Obj), (W.alloc o).cell? ⟨w.heap.size, l, none⟩ = W.cell? ⟨w.heap.size, l, none⟩ := fun l o => World.cell?_alloc_lt W o ⟨w.heap.size, l, none⟩ hlt
 rw [e, e] at h; exact ⟨by rw [e]; exact h.1, by rw [e]; exact h.2.1, hB.alloc (Nat.le_of_lt hlt) _⟩

theorem blk_second (w : World) (o : Obj) (t : TypeId) (cs : Array Value) : Blk ((w.alloc o).alloc (.cells cs t)) (w.heap.size + 1) t cs := by
 have := Blk.new (w.alloc o) t cs; rw [World.size_alloc] at this; exact this
def MoveV (w : World) (b : Bool) (L : Led) (e : Ending) (w' : World) : Prop := ∃ v, e = .returned (.tuple #[v, .bool b]) ∧ (b = false → v = .slice none 0 0) ∧ (b = true → OwnH w' w.heap.size v (rawL L)) ∧ Below w.heap.size w w'
theorem own_le {w : World} {base base' : Nat} {v : Value} {hs : List Hd} (h : OwnH w base' v hs) (hb : base ≤ base') : OwnH w base v hs := by
 refine ⟨h.1, ?_⟩
 rcases h.2 with h | ⟨g, cap, cur, a, b, c⟩
 ·exact .inl h
 ·exact .inr ⟨g, cap, cur, a, Nat.le_trans hb b, c⟩
theorem own_hs2 {w : World} {base : Nat} {v : Value} {hs : List Hd} (h : OwnH w base v hs) : ∃ (b : Option Addr) (cap : Nat), v = .slice b hs.length cap ∧ IsHs w b hs ∧ hs.length ≤ cap := by
 have h0 := h
 rcases h.2 with ⟨hv, hn⟩ | ⟨g, cap, cur, hv, _, _, hnc, _⟩
 ·exact ⟨none, 0, by rw [hv, hn], .inl (List.eq_nil_of_length_eq_zero hn), by omega⟩
 ·subst hv
  exact ⟨some ⟨g, 0, none⟩, cap, rfl, reads_hs (Reads.of_own h0) (fun ad e => by injection e with e; rw [← e]), hnc⟩

end Go.Proofs.Ytaehemmjemhgpaa
