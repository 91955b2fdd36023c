/- A block that begins with known numbers; marks written over it. No condition but those stated. -/
import Derived.Test.YtdlbjmhjaljlfaaReads
import Derived.Test.YtdlbjmhjaljlfaaOwnZ
namespace Go.Proofs.Ytdlbjmhjaljlfaa
open Go.RowKit

/-- block g begins with the numbers zs, and may be written -/
def Flat (w : World) (g : Nat) (t : TypeId) (zs : List Int) : Prop := ∃ cs : Array Value, w.heap[g]? = some (.cells cs t (0, 0)) ∧ ∀ j, j < zs.length → cs[j]? = some (.int .i64 (zs.getD j 0))
theorem Flat.cell {w : World} {g : Nat} {t : TypeId} {zs : List Int} (h : Flat w g t zs) {j : Nat} (hj : j < zs.length) : w.cell? ⟨g, j, none⟩ = some (.int .i64 (zs.getD j 0)) := by
  obtain ⟨cs, hb, hc⟩ := h
  rw [cell_of_row w g j cs t (0, 0) hb]; exact hc j hj
theorem Flat.frozen {w : World} {g : Nat} {t : TypeId} {zs : List Int} (h : Flat w g t zs) (j : Nat) : w.frozen? ⟨g, j, none⟩ = false := by
  obtain ⟨cs, hb, hc⟩ := h
  simp [World.frozen?, hb]
theorem Flat.lt {w : World} {g : Nat} {t : TypeId} {zs : List Int} (h : Flat w g t zs) : g < w.heap.size := by
  obtain ⟨cs, hb, hc⟩ := h
  exact Blk.lt hb
theorem Flat.of_block {w w' : World} {g : Nat} {t : TypeId} {zs : List Int} (h : Flat w g t zs) (e : w'.heap[g]? = w.heap[g]?) : Flat w' g t zs := by
  obtain ⟨cs, hb, hc⟩ := h
  exact ⟨cs, e.trans hb, hc⟩
theorem Flat.next {w w' : World} {g : Nat} {t : TypeId} {zs : List Int} (h : Flat w g t zs) (hb : Below w.heap.size w w') : Flat w' g t zs := h.of_block (hb.block g h.lt)
theorem Flat.apart {w w' : World} {g g' : Nat} {t : TypeId} {zs : List Int} (h : Flat w g t zs) (hG : w.grownBy w' (some g')) (hne : g ≠ g') : Flat w' g t zs :=
  h.of_block (hG.block g h.lt (fun e => by injection e with e; exact hne e))
theorem getD_setF {zs : List Int} {i j : Nat} {z : Int} (hi : i < zs.length) : (zs.set i z).getD j 0 = if j = i then z else zs.getD j 0 := by
  rw [List.getD_eq_getElem?_getD, List.getD_eq_getElem?_getD, List.getElem?_set]
  by_cases e : i = j
  · subst e; rw [if_pos rfl, if_pos hi, if_pos rfl]; rfl
  · rw [if_neg e, if_neg (fun c => e c.symm)]
theorem Flat.set_ {w : World} {g : Nat} {t : TypeId} {zs : List Int} (h : Flat w g t zs) {i : Nat} (hi : i < zs.length) (z : Int) : Flat (w.setCell ⟨g, i, none⟩ (.int .i64 z)) g t (zs.set i z) := by
  obtain ⟨cs, hb, hc⟩ := h
  refine ⟨cs.setIfInBounds i (.int .i64 z), Blk.set_ hb i _, fun j hj => ?_⟩
  rw [List.length_set] at hj
  have hs : i < cs.size := by
    have := hc i hi
    rcases Nat.lt_or_ge i cs.size with h | h
    · exact h
    · rw [Array.getElem?_eq_none h] at this; cases this
  rw [Array.getElem?_setIfInBounds, getD_setF hi]
  by_cases e : i = j
  · subst e; rw [if_pos rfl, if_pos hs, if_pos rfl]
  · rw [if_neg e, if_neg (fun c => e c.symm)]; exact hc j hj
theorem Flat.row {w : World} {g : Nat} {t : TypeId} {n : Nat} {f : Nat → Value} {zs : List Int} (h : w.rowIs g t n f) (hl : zs.length ≤ n) (hf : ∀ j, j < zs.length → f j = .int .i64 (zs.getD j 0)) : Flat w g t zs := by
  obtain ⟨cs, hb, _, hc⟩ := h
  exact ⟨cs, hb, fun j hj => by rw [hc j (by omega), hf j hj]⟩
/-- a row of the call's own that begins with numbers: nil, or a block -/
theorem Flat.own {w : World} {base : Nat} {e : TypeId} {size n : Nat} {v : Value} {zs : List Int} (h : w.ownsRow base e size v n (zs.map (Value.int .i64))) : (v = .slice none 0 0 ∧ n = 0) ∨ ∃ g cap, v = .slice (some ⟨g, 0, none⟩) n cap ∧ base ≤ g ∧ Flat w g e zs ∧ n ≤ cap := by
  rcases h.2 with h0 | ⟨g, cap, cur, rfl, hg, hb, hnc, _, _, ht⟩
  · exact .inl h0
  · refine .inr ⟨g, cap, rfl, hg, ⟨cur, hb, fun j hj => ?_⟩, hnc⟩
    have hl := h.1
    rw [List.length_map] at hl
    have : (List.take (n * size) cur.toList)[j]? = some (.int .i64 (zs.getD j 0)) := by
      rw [ht, List.getElem?_map, List.getElem?_eq_getElem hj, List.getD_eq_getElem?_getD, List.getElem?_eq_getElem hj]; rfl
    rw [List.getElem?_take_of_lt (by omega)] at this
    simpa using this
theorem Flat.hs {w : World} {g : Nat} {t : TypeId} {hs : List Hd} (h : Flat w g t (flatH hs)) : IsHs w (some ⟨g, 0, none⟩) hs := by
  refine .inr ⟨g, 0, rfl, fun i hi => ?_⟩
  obtain ⟨a, b, c⟩ := flat_get hs i hi
  have hl := flat_len hs
  rw [Nat.zero_add]
  exact ⟨by rw [h.cell (by omega), a], by rw [h.cell (by omega), b], by rw [h.cell (by omega), c]⟩

end Go.Proofs.Ytdlbjmhjaljlfaa
