/- Three cells that stay, in regions whose order is drawn. No condition but those stated. -/
import Derived.Test.YtppnhhnilnikfaaDrawHd
namespace Go.Proofs.Ytppnhhnilnikfaa
open Go.RowKit
def K3 (p q r : Addr) (x y z : Value) (W : World) : Prop := W.cell? p = some x ∧ W.cell? q = some y ∧ W.cell? r = some z
theorem kp3 {W wq v : World} {x y z : Value} {p q r : Addr} (hb : Below W.heap.size W wq) (h : (W.cell? p = some x ∧ W.cell? q = some y ∧ W.cell? r = some z) ∧ Below v.heap.size v W) : (wq.cell? p = some x ∧ wq.cell? q = some y ∧ wq.cell? r = some z) ∧ Below v.heap.size v wq :=
  ⟨⟨(hb.cell (World.block_lt_of_cell? W _ h.1.1)).trans h.1.1, (hb.cell (World.block_lt_of_cell? W _ h.1.2.1)).trans h.1.2.1, (hb.cell (World.block_lt_of_cell? W _ h.1.2.2)).trans h.1.2.2⟩, bel_tr h.2 hb⟩
theorem ne_block {p : Addr} {g o : Nat} (h : p.block < g) : (⟨g, o, none⟩ : Addr) ≠ p := fun e => by subst e; exact Nat.lt_irrefl _ h
theorem kp3S {W v : World} {x y z : Value} {p q r : Addr} {g : Nat} (h : (W.cell? p = some x ∧ W.cell? q = some y ∧ W.cell? r = some z) ∧ Below v.heap.size v W) (hg : v.heap.size ≤ g) (a b : Value) (hp : p.block < v.heap.size) (hq : q.block < v.heap.size) (hr : r.block < v.heap.size) :
    (((W.setCell ⟨g, 0, none⟩ a).setCell ⟨g, 1, none⟩ b).cell? p = some x ∧ ((W.setCell ⟨g, 0, none⟩ a).setCell ⟨g, 1, none⟩ b).cell? q = some y ∧ ((W.setCell ⟨g, 0, none⟩ a).setCell ⟨g, 1, none⟩ b).cell? r = some z) ∧ Below v.heap.size v ((W.setCell ⟨g, 0, none⟩ a).setCell ⟨g, 1, none⟩ b) :=
  have k : ∀ {c : Addr} {u : Value}, c.block < v.heap.size → W.cell? c = some u → ((W.setCell ⟨g, 0, none⟩ a).setCell ⟨g, 1, none⟩ b).cell? c = some u := fun hc hu => so (ne_block (by omega)) (so (ne_block (by omega)) hu)
  ⟨⟨k hp h.1.1, k hq h.1.2.1, k hr h.1.2.2⟩, (h.2.setCell hg _).setCell hg _⟩
theorem kp3A {U : World} {x y z : Value} {p q r : Addr} (O : Obj) (h : U.cell? p = some x ∧ U.cell? q = some y ∧ U.cell? r = some z) :
    ((U.alloc O).drew.cell? p = some x ∧ (U.alloc O).drew.cell? q = some y ∧ (U.alloc O).drew.cell? r = some z) ∧ Below U.heap.size U (U.alloc O).drew :=
  ⟨(kp3 ((Below.refl _ U).alloc (Nat.le_refl _) O) ⟨h, Below.refl _ U⟩).1, ((Below.refl _ U).alloc (Nat.le_refl _) O).drew⟩
theorem ints_at {w W : World} {g k : Nat} {zs : List Int} (h : IsInts w (some ⟨g, 0, none⟩) zs) (hB : Below w.heap.size w W) (hk : k < zs.length) : W.cell? ⟨g, k, none⟩ = some (.int .i64 (zs.getD k 0)) := by
  rcases h with rfl | ⟨g', o', e, hc⟩
  · simp at hk
  · injection e with e
    injection e with e1 e2
    subst e1 e2
    have := hc k hk
    rw [Nat.zero_add] at this
    exact (hB.cell (World.block_lt_of_cell? w _ this)).trans this
theorem ints_lt {w : World} {g : Nat} {zs : List Int} (h : IsInts w (some ⟨g, 0, none⟩) zs) (hk : 0 < zs.length) : g < w.heap.size :=
  World.block_lt_of_cell? w _ (ints_at h (Below.refl _ w) hk)
end Go.Proofs.Ytppnhhnilnikfaa
