/- Rows of the call's own beside structs that are stored into. No condition. -/
import Derived.Test.YthagafkjlecagabRowF
import Derived.Test.YthagafkjlecagabGrB
namespace Go.Proofs.Ythagafkjlecagab
open Go.RowKit
set_option linter.unusedSimpArgs false
set_option linter.unusedVariables false
theorem rowN {w w' : World} {base n size : Nat} {t : TypeId} {v : Value} {xs : List Value} (h : w.ownsRow base t size v n xs) (hb : Below w.heap.size w w') : w'.ownsRow base t size v n xs := by
  refine ⟨h.1, ?_⟩
  rcases h.2 with h0 | ⟨g, cap, cur, hv, hg, hb0, r⟩
  · exact .inl h0
  · exact .inr ⟨g, cap, cur, hv, hg, (hb.block g (Blk.lt hb0)).trans hb0, r⟩
theorem rowH {w w' : World} {base n size : Nat} {t : TypeId} {v : Value} {xs : List Value} (h : w.ownsRow base t size v n xs) (hk : ∀ (g : Nat) (cs : Array Value), w.heap[g]? = some (Obj.cells cs t (0, 0)) → w'.heap[g]? = w.heap[g]?) : w'.ownsRow base t size v n xs := by
  refine ⟨h.1, ?_⟩
  rcases h.2 with h0 | ⟨g, cap, cur, hv, hg, hb0, r⟩
  · exact .inl h0
  · exact .inr ⟨g, cap, cur, hv, hg, (hk g cur hb0).trans hb0, r⟩
theorem blk_type {w : World} {b g : Nat} {t t' : TypeId} {cs cs' : Array Value} (K : Blk w b t cs) (h : w.heap[g]? = some (Obj.cells cs' t' (0, 0))) (hne : t ≠ t') : g ≠ b := by
  rintro rfl
  unfold Blk at K
  rw [K] at h
  injection h with e
  injection e with _ e2
  exact hne e2
theorem rowS {w : World} {base n size b : Nat} {t t' : TypeId} {v : Value} {xs : List Value} {cs : Array Value} (h : w.ownsRow base t size v n xs) (K : Blk w b t' cs) (hne : t' ≠ t) (j : Nat) (x : Value) : (w.setCell ⟨b, j, none⟩ x).ownsRow base t size v n xs :=
  rowH h (fun g cs' hg => Below.heap_setCell w ⟨b, j, none⟩ x g (blk_type K hg hne))
theorem rowG {w w' : World} {base n size : Nat} {t : TypeId} {v : Value} {xs : List Value} {O : Obj} (h : w.ownsRow base t size v n xs) (hG : (w.alloc O).grownBy w' (some w.heap.size)) : w'.ownsRow base t size v n xs :=
  rowH h (fun g cs hg => by
    have hlt : g < w.heap.size := Blk.lt hg
    exact (hG.block g (by simp; omega) (fun e => by injection e with e; omega)).trans (Below.heap_alloc w O g hlt))
theorem blkN {w w' : World} {g : Nat} {t : TypeId} {cs : Array Value} {O : Obj} (h : Blk w g t cs) (hG : (w.alloc O).grownBy w' (some w.heap.size)) : Blk w' g t cs :=
  (h.alloc O).grown hG (fun e => by injection e with e; exact absurd h.lt (by omega))
theorem belN {w0 w w' : World} {O : Obj} (h : Below w0.heap.size w0 w) (hG : (w.alloc O).grownBy w' (some w.heap.size)) : Below w0.heap.size w0 w' :=
  (h.alloc h.size O).grown hG (by have := h.size; simp; omega) (fun q e => by injection e with e; have := h.size; omega)
theorem own_form {w : World} {base n size : Nat} {t : TypeId} {v : Value} {xs : List Value} (h : w.ownsRow base t size v n xs) : ∃ b k, v = .slice b n k ∧ n ≤ k := by
  rcases h.2 with ⟨e, h0⟩ | ⟨g, cap, cur, e, _, _, hc, _⟩
  · exact ⟨none, 0, by rw [e, h0], by omega⟩
  · exact ⟨_, _, e, hc⟩
theorem own_rowF {w : World} {base n size : Nat} {t : TypeId} {v : Value} {zs : List Int} (h : w.ownsRow base t size v n (zs.map (Value.int .i64))) : RowF w base t v n zs := Flat.own h
/-- 6 cells of a block stored anew -/
def sets6 (w : World) (b : Nat) (v0 v1 v2 v3 v4 v5 : Value) : World := ((((((w.setCell ⟨b, 0, none⟩ v0).setCell ⟨b, 1, none⟩ v1).setCell ⟨b, 2, none⟩ v2).setCell ⟨b, 3, none⟩ v3).setCell ⟨b, 4, none⟩ v4).setCell ⟨b, 5, none⟩ v5)
theorem sets6_below {w W : World} {b : Nat} {v0 v1 v2 v3 v4 v5 : Value} (h : Below w.heap.size w W) (hb : w.heap.size ≤ b) : Below w.heap.size w (sets6 W b v0 v1 v2 v3 v4 v5) := ((((((h.setCell (p := ⟨b, 0, none⟩) hb v0).setCell (p := ⟨b, 1, none⟩) hb v1).setCell (p := ⟨b, 2, none⟩) hb v2).setCell (p := ⟨b, 3, none⟩) hb v3).setCell (p := ⟨b, 4, none⟩) hb v4).setCell (p := ⟨b, 5, none⟩) hb v5)
theorem sets6_blk {w : World} {b : Nat} {t : TypeId} {u0 u1 u2 u3 u4 u5 v0 v1 v2 v3 v4 v5 : Value} (h : Blk w b t #[u0, u1, u2, u3, u4, u5]) : Blk (sets6 w b v0 v1 v2 v3 v4 v5) b t #[v0, v1, v2, v3, v4, v5] := by
  have k := ((((((h.set_ 0 v0).set_ 1 v1).set_ 2 v2).set_ 3 v3).set_ 4 v4).set_ 5 v5)
  simp only [List.setIfInBounds_toArray, List.set_cons_zero, List.set_cons_succ] at k
  exact k
theorem rowX6 {w : World} {base n size b : Nat} {t t' : TypeId} {v : Value} {xs : List Value} {cs : Array Value} {v0 v1 v2 v3 v4 v5 : Value} (h : w.ownsRow base t size v n xs) (K : Blk w b t' cs) (hne : t' ≠ t) : (sets6 w b v0 v1 v2 v3 v4 v5).ownsRow base t size v n xs :=
  rowH h (fun g cs' hg => by
    have hn := blk_type K hg hne
    unfold sets6
    rw [Below.heap_setCell _ _ _ g hn, Below.heap_setCell _ _ _ g hn, Below.heap_setCell _ _ _ g hn, Below.heap_setCell _ _ _ g hn, Below.heap_setCell _ _ _ g hn, Below.heap_setCell _ _ _ g hn])
theorem cells6 {w : World} {g : Nat} {t : TypeId} {v0 v1 v2 v3 v4 v5 : Value} (h : Blk w g t #[v0, v1, v2, v3, v4, v5]) : w.cell? ⟨g, 0, none⟩ = some v0 ∧ w.cell? ⟨g, 1, none⟩ = some v1 ∧ w.cell? ⟨g, 2, none⟩ = some v2 ∧ w.cell? ⟨g, 3, none⟩ = some v3 ∧ w.cell? ⟨g, 4, none⟩ = some v4 ∧ w.cell? ⟨g, 5, none⟩ = some v5 := ⟨h.cell 0, h.cell 1, h.cell 2, h.cell 3, h.cell 4, h.cell 5⟩
/-- 9 cells of a block stored anew -/
def sets9 (w : World) (b : Nat) (v0 v1 v2 v3 v4 v5 v6 v7 v8 : Value) : World := (((((((((w.setCell ⟨b, 0, none⟩ v0).setCell ⟨b, 1, none⟩ v1).setCell ⟨b, 2, none⟩ v2).setCell ⟨b, 3, none⟩ v3).setCell ⟨b, 4, none⟩ v4).setCell ⟨b, 5, none⟩ v5).setCell ⟨b, 6, none⟩ v6).setCell ⟨b, 7, none⟩ v7).setCell ⟨b, 8, none⟩ v8)
theorem sets9_below {w W : World} {b : Nat} {v0 v1 v2 v3 v4 v5 v6 v7 v8 : Value} (h : Below w.heap.size w W) (hb : w.heap.size ≤ b) : Below w.heap.size w (sets9 W b v0 v1 v2 v3 v4 v5 v6 v7 v8) := (((((((((h.setCell (p := ⟨b, 0, none⟩) hb v0).setCell (p := ⟨b, 1, none⟩) hb v1).setCell (p := ⟨b, 2, none⟩) hb v2).setCell (p := ⟨b, 3, none⟩) hb v3).setCell (p := ⟨b, 4, none⟩) hb v4).setCell (p := ⟨b, 5, none⟩) hb v5).setCell (p := ⟨b, 6, none⟩) hb v6).setCell (p := ⟨b, 7, none⟩) hb v7).setCell (p := ⟨b, 8, none⟩) hb v8)
theorem sets9_blk {w : World} {b : Nat} {t : TypeId} {u0 u1 u2 u3 u4 u5 u6 u7 u8 v0 v1 v2 v3 v4 v5 v6 v7 v8 : Value} (h : Blk w b t #[u0, u1, u2, u3, u4, u5, u6, u7, u8]) : Blk (sets9 w b v0 v1 v2 v3 v4 v5 v6 v7 v8) b t #[v0, v1, v2, v3, v4, v5, v6, v7, v8] := by
  have k := (((((((((h.set_ 0 v0).set_ 1 v1).set_ 2 v2).set_ 3 v3).set_ 4 v4).set_ 5 v5).set_ 6 v6).set_ 7 v7).set_ 8 v8)
  simp only [List.setIfInBounds_toArray, List.set_cons_zero, List.set_cons_succ] at k
  exact k
theorem rowX9 {w : World} {base n size b : Nat} {t t' : TypeId} {v : Value} {xs : List Value} {cs : Array Value} {v0 v1 v2 v3 v4 v5 v6 v7 v8 : Value} (h : w.ownsRow base t size v n xs) (K : Blk w b t' cs) (hne : t' ≠ t) : (sets9 w b v0 v1 v2 v3 v4 v5 v6 v7 v8).ownsRow base t size v n xs :=
  rowH h (fun g cs' hg => by
    have hn := blk_type K hg hne
    unfold sets9
    rw [Below.heap_setCell _ _ _ g hn, Below.heap_setCell _ _ _ g hn, Below.heap_setCell _ _ _ g hn, Below.heap_setCell _ _ _ g hn, Below.heap_setCell _ _ _ g hn, Below.heap_setCell _ _ _ g hn, Below.heap_setCell _ _ _ g hn, Below.heap_setCell _ _ _ g hn, Below.heap_setCell _ _ _ g hn])
theorem cells9 {w : World} {g : Nat} {t : TypeId} {v0 v1 v2 v3 v4 v5 v6 v7 v8 : Value} (h : Blk w g t #[v0, v1, v2, v3, v4, v5, v6, v7, v8]) : w.cell? ⟨g, 0, none⟩ = some v0 ∧ w.cell? ⟨g, 1, none⟩ = some v1 ∧ w.cell? ⟨g, 2, none⟩ = some v2 ∧ w.cell? ⟨g, 3, none⟩ = some v3 ∧ w.cell? ⟨g, 4, none⟩ = some v4 ∧ w.cell? ⟨g, 5, none⟩ = some v5 ∧ w.cell? ⟨g, 6, none⟩ = some v6 ∧ w.cell? ⟨g, 7, none⟩ = some v7 ∧ w.cell? ⟨g, 8, none⟩ = some v8 := ⟨h.cell 0, h.cell 1, h.cell 2, h.cell 3, h.cell 4, h.cell 5, h.cell 6, h.cell 7, h.cell 8⟩
theorem fS {w y : World} {g b j : Nat} {t : TypeId} {cs : Array Value} {v : Value} (h : Blk w g t cs) (hy : y = w.setCell ⟨b, j, none⟩ v) (hn : g ≠ b) : Blk y g t cs := by subst hy; exact h.far (p := ⟨b, j, none⟩) hn v
theorem fS2 {w y : World} {g b j j2 : Nat} {t : TypeId} {cs : Array Value} {v v2 : Value} (h : Blk w g t cs) (hy : y = (w.setCell ⟨b, j, none⟩ v).setCell ⟨b, j2, none⟩ v2) (hn : g ≠ b) : Blk y g t cs := fS (fS h rfl hn) hy hn
theorem rS {w y : World} {base n size b j : Nat} {t t' : TypeId} {v x : Value} {xs : List Value} {cs : Array Value} (h : w.ownsRow base t size v n xs) (K : Blk w b t' cs) (hy : y = w.setCell ⟨b, j, none⟩ x) (hne : t' ≠ t) : y.ownsRow base t size v n xs := by subst hy; exact rowS h K hne j x
theorem rS2 {w y : World} {base n size b j j2 : Nat} {t t' : TypeId} {v x x2 : Value} {xs : List Value} {cs : Array Value} (h : w.ownsRow base t size v n xs) (K : Blk w b t' cs) (hy : y = (w.setCell ⟨b, j, none⟩ x).setCell ⟨b, j2, none⟩ x2) (hne : t' ≠ t) : y.ownsRow base t size v n xs := rS (rS h K rfl hne) (K.set_ j x) hy hne
theorem bS {w0 w y : World} {b j : Nat} {v : Value} (h : Below w0.heap.size w0 w) (hy : y = w.setCell ⟨b, j, none⟩ v) (hb : w0.heap.size ≤ b) : Below w0.heap.size w0 y := by subst hy; exact h.setCell (p := ⟨b, j, none⟩) hb v
theorem bS2 {w0 w y : World} {b j j2 : Nat} {v v2 : Value} (h : Below w0.heap.size w0 w) (hy : y = (w.setCell ⟨b, j, none⟩ v).setCell ⟨b, j2, none⟩ v2) (hb : w0.heap.size ≤ b) : Below w0.heap.size w0 y := bS (bS h rfl hb) hy hb
theorem S10_0 {w y : World} {b : Nat} {t : TypeId} {u0 u1 u2 u3 u4 u5 u6 u7 u8 u9 v : Value} (h : Blk w b t #[u0, u1, u2, u3, u4, u5, u6, u7, u8, u9]) (hy : y = w.setCell ⟨b, 0, none⟩ v) : Blk y b t #[v, u1, u2, u3, u4, u5, u6, u7, u8, u9] := by subst hy; exact h.set_ 0 v
theorem S10_1 {w y : World} {b : Nat} {t : TypeId} {u0 u1 u2 u3 u4 u5 u6 u7 u8 u9 v : Value} (h : Blk w b t #[u0, u1, u2, u3, u4, u5, u6, u7, u8, u9]) (hy : y = w.setCell ⟨b, 1, none⟩ v) : Blk y b t #[u0, v, u2, u3, u4, u5, u6, u7, u8, u9] := by subst hy; exact h.set_ 1 v
theorem S10_2 {w y : World} {b : Nat} {t : TypeId} {u0 u1 u2 u3 u4 u5 u6 u7 u8 u9 v : Value} (h : Blk w b t #[u0, u1, u2, u3, u4, u5, u6, u7, u8, u9]) (hy : y = w.setCell ⟨b, 2, none⟩ v) : Blk y b t #[u0, u1, v, u3, u4, u5, u6, u7, u8, u9] := by subst hy; exact h.set_ 2 v
theorem S10_3 {w y : World} {b : Nat} {t : TypeId} {u0 u1 u2 u3 u4 u5 u6 u7 u8 u9 v : Value} (h : Blk w b t #[u0, u1, u2, u3, u4, u5, u6, u7, u8, u9]) (hy : y = w.setCell ⟨b, 3, none⟩ v) : Blk y b t #[u0, u1, u2, v, u4, u5, u6, u7, u8, u9] := by subst hy; exact h.set_ 3 v
theorem S10_4 {w y : World} {b : Nat} {t : TypeId} {u0 u1 u2 u3 u4 u5 u6 u7 u8 u9 v : Value} (h : Blk w b t #[u0, u1, u2, u3, u4, u5, u6, u7, u8, u9]) (hy : y = w.setCell ⟨b, 4, none⟩ v) : Blk y b t #[u0, u1, u2, u3, v, u5, u6, u7, u8, u9] := by subst hy; exact h.set_ 4 v
theorem S10_5 {w y : World} {b : Nat} {t : TypeId} {u0 u1 u2 u3 u4 u5 u6 u7 u8 u9 v : Value} (h : Blk w b t #[u0, u1, u2, u3, u4, u5, u6, u7, u8, u9]) (hy : y = w.setCell ⟨b, 5, none⟩ v) : Blk y b t #[u0, u1, u2, u3, u4, v, u6, u7, u8, u9] := by subst hy; exact h.set_ 5 v
theorem S10_6 {w y : World} {b : Nat} {t : TypeId} {u0 u1 u2 u3 u4 u5 u6 u7 u8 u9 v : Value} (h : Blk w b t #[u0, u1, u2, u3, u4, u5, u6, u7, u8, u9]) (hy : y = w.setCell ⟨b, 6, none⟩ v) : Blk y b t #[u0, u1, u2, u3, u4, u5, v, u7, u8, u9] := by subst hy; exact h.set_ 6 v
theorem S10_7 {w y : World} {b : Nat} {t : TypeId} {u0 u1 u2 u3 u4 u5 u6 u7 u8 u9 v : Value} (h : Blk w b t #[u0, u1, u2, u3, u4, u5, u6, u7, u8, u9]) (hy : y = w.setCell ⟨b, 7, none⟩ v) : Blk y b t #[u0, u1, u2, u3, u4, u5, u6, v, u8, u9] := by subst hy; exact h.set_ 7 v
theorem S10_8 {w y : World} {b : Nat} {t : TypeId} {u0 u1 u2 u3 u4 u5 u6 u7 u8 u9 v : Value} (h : Blk w b t #[u0, u1, u2, u3, u4, u5, u6, u7, u8, u9]) (hy : y = w.setCell ⟨b, 8, none⟩ v) : Blk y b t #[u0, u1, u2, u3, u4, u5, u6, u7, v, u9] := by subst hy; exact h.set_ 8 v
theorem S10_9 {w y : World} {b : Nat} {t : TypeId} {u0 u1 u2 u3 u4 u5 u6 u7 u8 u9 v : Value} (h : Blk w b t #[u0, u1, u2, u3, u4, u5, u6, u7, u8, u9]) (hy : y = w.setCell ⟨b, 9, none⟩ v) : Blk y b t #[u0, u1, u2, u3, u4, u5, u6, u7, u8, v] := by subst hy; exact h.set_ 9 v
theorem S10_3x2 {w y : World} {b : Nat} {t : TypeId} {u0 u1 u2 u3 u4 u5 u6 u7 u8 u9 v v2 : Value} (h : Blk w b t #[u0, u1, u2, u3, u4, u5, u6, u7, u8, u9]) (hy : y = (w.setCell ⟨b, 3, none⟩ v).setCell ⟨b, 4, none⟩ v2) : Blk y b t #[u0, u1, u2, v, v2, u5, u6, u7, u8, u9] := S10_4 (S10_3 h rfl) hy
theorem S9_0 {w y : World} {b : Nat} {t : TypeId} {u0 u1 u2 u3 u4 u5 u6 u7 u8 v : Value} (h : Blk w b t #[u0, u1, u2, u3, u4, u5, u6, u7, u8]) (hy : y = w.setCell ⟨b, 0, none⟩ v) : Blk y b t #[v, u1, u2, u3, u4, u5, u6, u7, u8] := by subst hy; exact h.set_ 0 v
theorem S9_1 {w y : World} {b : Nat} {t : TypeId} {u0 u1 u2 u3 u4 u5 u6 u7 u8 v : Value} (h : Blk w b t #[u0, u1, u2, u3, u4, u5, u6, u7, u8]) (hy : y = w.setCell ⟨b, 1, none⟩ v) : Blk y b t #[u0, v, u2, u3, u4, u5, u6, u7, u8] := by subst hy; exact h.set_ 1 v
theorem S9_2 {w y : World} {b : Nat} {t : TypeId} {u0 u1 u2 u3 u4 u5 u6 u7 u8 v : Value} (h : Blk w b t #[u0, u1, u2, u3, u4, u5, u6, u7, u8]) (hy : y = w.setCell ⟨b, 2, none⟩ v) : Blk y b t #[u0, u1, v, u3, u4, u5, u6, u7, u8] := by subst hy; exact h.set_ 2 v
theorem S9_3 {w y : World} {b : Nat} {t : TypeId} {u0 u1 u2 u3 u4 u5 u6 u7 u8 v : Value} (h : Blk w b t #[u0, u1, u2, u3, u4, u5, u6, u7, u8]) (hy : y = w.setCell ⟨b, 3, none⟩ v) : Blk y b t #[u0, u1, u2, v, u4, u5, u6, u7, u8] := by subst hy; exact h.set_ 3 v
theorem S9_4 {w y : World} {b : Nat} {t : TypeId} {u0 u1 u2 u3 u4 u5 u6 u7 u8 v : Value} (h : Blk w b t #[u0, u1, u2, u3, u4, u5, u6, u7, u8]) (hy : y = w.setCell ⟨b, 4, none⟩ v) : Blk y b t #[u0, u1, u2, u3, v, u5, u6, u7, u8] := by subst hy; exact h.set_ 4 v
theorem S9_5 {w y : World} {b : Nat} {t : TypeId} {u0 u1 u2 u3 u4 u5 u6 u7 u8 v : Value} (h : Blk w b t #[u0, u1, u2, u3, u4, u5, u6, u7, u8]) (hy : y = w.setCell ⟨b, 5, none⟩ v) : Blk y b t #[u0, u1, u2, u3, u4, v, u6, u7, u8] := by subst hy; exact h.set_ 5 v
theorem S9_6 {w y : World} {b : Nat} {t : TypeId} {u0 u1 u2 u3 u4 u5 u6 u7 u8 v : Value} (h : Blk w b t #[u0, u1, u2, u3, u4, u5, u6, u7, u8]) (hy : y = w.setCell ⟨b, 6, none⟩ v) : Blk y b t #[u0, u1, u2, u3, u4, u5, v, u7, u8] := by subst hy; exact h.set_ 6 v
theorem S9_7 {w y : World} {b : Nat} {t : TypeId} {u0 u1 u2 u3 u4 u5 u6 u7 u8 v : Value} (h : Blk w b t #[u0, u1, u2, u3, u4, u5, u6, u7, u8]) (hy : y = w.setCell ⟨b, 7, none⟩ v) : Blk y b t #[u0, u1, u2, u3, u4, u5, u6, v, u8] := by subst hy; exact h.set_ 7 v
theorem S9_8 {w y : World} {b : Nat} {t : TypeId} {u0 u1 u2 u3 u4 u5 u6 u7 u8 v : Value} (h : Blk w b t #[u0, u1, u2, u3, u4, u5, u6, u7, u8]) (hy : y = w.setCell ⟨b, 8, none⟩ v) : Blk y b t #[u0, u1, u2, u3, u4, u5, u6, u7, v] := by subst hy; exact h.set_ 8 v
theorem S9_3x2 {w y : World} {b : Nat} {t : TypeId} {u0 u1 u2 u3 u4 u5 u6 u7 u8 v v2 : Value} (h : Blk w b t #[u0, u1, u2, u3, u4, u5, u6, u7, u8]) (hy : y = (w.setCell ⟨b, 3, none⟩ v).setCell ⟨b, 4, none⟩ v2) : Blk y b t #[u0, u1, u2, v, v2, u5, u6, u7, u8] := S9_4 (S9_3 h rfl) hy
theorem X9b {w y : World} {b : Nat} {t : TypeId} {u0 u1 u2 u3 u4 u5 u6 u7 u8 v0 v1 v2 v3 v4 v5 v6 v7 v8 : Value} (h : Blk w b t #[u0, u1, u2, u3, u4, u5, u6, u7, u8]) (hy : y = sets9 w b v0 v1 v2 v3 v4 v5 v6 v7 v8) : Blk y b t #[v0, v1, v2, v3, v4, v5, v6, v7, v8] := by subst hy; exact sets9_blk h
theorem X9r {w y : World} {base n size b : Nat} {t t' : TypeId} {v : Value} {xs : List Value} {cs : Array Value} {v0 v1 v2 v3 v4 v5 v6 v7 v8 : Value} (h : w.ownsRow base t size v n xs) (K : Blk w b t' cs) (hy : y = sets9 w b v0 v1 v2 v3 v4 v5 v6 v7 v8) (hne : t' ≠ t) : y.ownsRow base t size v n xs := by subst hy; exact rowX9 h K hne
theorem X9B {w0 w y : World} {b : Nat} {v0 v1 v2 v3 v4 v5 v6 v7 v8 : Value} (h : Below w0.heap.size w0 w) (hy : y = sets9 w b v0 v1 v2 v3 v4 v5 v6 v7 v8) (hb : w0.heap.size ≤ b) : Below w0.heap.size w0 y := by subst hy; exact sets9_below h hb
theorem S6_0 {w y : World} {b : Nat} {t : TypeId} {u0 u1 u2 u3 u4 u5 v : Value} (h : Blk w b t #[u0, u1, u2, u3, u4, u5]) (hy : y = w.setCell ⟨b, 0, none⟩ v) : Blk y b t #[v, u1, u2, u3, u4, u5] := by subst hy; exact h.set_ 0 v
theorem S6_1 {w y : World} {b : Nat} {t : TypeId} {u0 u1 u2 u3 u4 u5 v : Value} (h : Blk w b t #[u0, u1, u2, u3, u4, u5]) (hy : y = w.setCell ⟨b, 1, none⟩ v) : Blk y b t #[u0, v, u2, u3, u4, u5] := by subst hy; exact h.set_ 1 v
theorem S6_2 {w y : World} {b : Nat} {t : TypeId} {u0 u1 u2 u3 u4 u5 v : Value} (h : Blk w b t #[u0, u1, u2, u3, u4, u5]) (hy : y = w.setCell ⟨b, 2, none⟩ v) : Blk y b t #[u0, u1, v, u3, u4, u5] := by subst hy; exact h.set_ 2 v
theorem S6_3 {w y : World} {b : Nat} {t : TypeId} {u0 u1 u2 u3 u4 u5 v : Value} (h : Blk w b t #[u0, u1, u2, u3, u4, u5]) (hy : y = w.setCell ⟨b, 3, none⟩ v) : Blk y b t #[u0, u1, u2, v, u4, u5] := by subst hy; exact h.set_ 3 v
theorem S6_4 {w y : World} {b : Nat} {t : TypeId} {u0 u1 u2 u3 u4 u5 v : Value} (h : Blk w b t #[u0, u1, u2, u3, u4, u5]) (hy : y = w.setCell ⟨b, 4, none⟩ v) : Blk y b t #[u0, u1, u2, u3, v, u5] := by subst hy; exact h.set_ 4 v
theorem S6_5 {w y : World} {b : Nat} {t : TypeId} {u0 u1 u2 u3 u4 u5 v : Value} (h : Blk w b t #[u0, u1, u2, u3, u4, u5]) (hy : y = w.setCell ⟨b, 5, none⟩ v) : Blk y b t #[u0, u1, u2, u3, u4, v] := by subst hy; exact h.set_ 5 v
theorem S6_3x2 {w y : World} {b : Nat} {t : TypeId} {u0 u1 u2 u3 u4 u5 v v2 : Value} (h : Blk w b t #[u0, u1, u2, u3, u4, u5]) (hy : y = (w.setCell ⟨b, 3, none⟩ v).setCell ⟨b, 4, none⟩ v2) : Blk y b t #[u0, u1, u2, v, v2, u5] := S6_4 (S6_3 h rfl) hy
theorem X6b {w y : World} {b : Nat} {t : TypeId} {u0 u1 u2 u3 u4 u5 v0 v1 v2 v3 v4 v5 : Value} (h : Blk w b t #[u0, u1, u2, u3, u4, u5]) (hy : y = sets6 w b v0 v1 v2 v3 v4 v5) : Blk y b t #[v0, v1, v2, v3, v4, v5] := by subst hy; exact sets6_blk h
theorem X6r {w y : World} {base n size b : Nat} {t t' : TypeId} {v : Value} {xs : List Value} {cs : Array Value} {v0 v1 v2 v3 v4 v5 : Value} (h : w.ownsRow base t size v n xs) (K : Blk w b t' cs) (hy : y = sets6 w b v0 v1 v2 v3 v4 v5) (hne : t' ≠ t) : y.ownsRow base t size v n xs := by subst hy; exact rowX6 h K hne
theorem X6B {w0 w y : World} {b : Nat} {v0 v1 v2 v3 v4 v5 : Value} (h : Below w0.heap.size w0 w) (hy : y = sets6 w b v0 v1 v2 v3 v4 v5) (hb : w0.heap.size ≤ b) : Below w0.heap.size w0 y := by subst hy; exact sets6_below h hb
end Go.Proofs.Ythagafkjlecagab
