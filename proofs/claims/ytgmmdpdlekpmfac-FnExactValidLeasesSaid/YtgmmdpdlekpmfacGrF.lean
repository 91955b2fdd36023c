/- Contracts and facts of functions of this program, in build order. Conditions: those stated in each. -/
import Derived.Test.YtgmmdpdlekpmfacGrB
import Derived.Test.YtgmmdpdlekpmfacGrA
import Derived.Test.YtgmmdpdlekpmfacGrD
import Derived.Test.YtgmmdpdlekpmfacGrE
import Derived.Deep.Matrix
import Derived.Deep.RegionHeld3
import Derived.Deep.RegionWith
import Derived.Deep.QuietTactic
import Derived.BigQuiet
import Derived.RegionTactic
import Derived.Deep.Slices
import Derived.ChangeSame
import Derived.ChangeArms
import Derived.ProofKit
namespace Go.Proofs.Ytgmmdpdlekpmfac
open Go.RowKit
set_option linter.unusedSimpArgs false
set_option linter.unusedVariables false
/-- s, s + 1 .. -/
def mkS (s : Int) (n : Nat) : List Int := (List.range n).map fun (i : Nat) => s + (i : Int)
theorem mkS_len (s : Int) (n : Nat) : (mkS s n).length = n := by unfold mkS; simp
theorem mkS_get (s : Int) (n : Nat) {k : Nat} (h : k < n) : (mkS s n).getD k 0 = s + (k : Int) := by
  unfold mkS
  rw [List.getD_eq_getElem?_getD, List.getElem?_map, List.getElem?_range h]; rfl
/-- the first j numbers written anew -/
def mkTo (s : Int) (zs : List Int) (j : Nat) : List Int := (List.range zs.length).map fun (i : Nat) => if i < j then s + (i : Int) else zs.getD i 0
theorem mkTo_len (s : Int) (zs : List Int) (j : Nat) : (mkTo s zs j).length = zs.length := by unfold mkTo; simp
theorem mkTo_get (s : Int) (zs : List Int) (j : Nat) {i : Nat} (h : i < zs.length) : (mkTo s zs j).getD i 0 = if i < j then s + (i : Int) else zs.getD i 0 := by
  unfold mkTo
  rw [List.getD_eq_getElem?_getD, List.getElem?_map, List.getElem?_range h]; rfl
theorem mk_ext {a b : List Int} (hl : a.length = b.length) (h : ∀ i, i < a.length → a.getD i 0 = b.getD i 0) : a = b := by
  apply List.ext_getElem hl
  intro i h1 h2
  have := h i h1
  rw [List.getD_eq_getElem?_getD, List.getElem?_eq_getElem h1, List.getD_eq_getElem?_getD, List.getElem?_eq_getElem h2] at this
  exact this
theorem mkTo_zero (s : Int) (zs : List Int) : mkTo s zs 0 = zs := mk_ext (mkTo_len s zs 0) (fun i hi => by rw [mkTo_len] at hi; rw [mkTo_get s zs 0 hi, if_neg (Nat.not_lt_zero _)])
theorem mkTo_set (s : Int) {zs : List Int} {j : Nat} (h : j < zs.length) : (mkTo s zs j).set j (s + (j : Int)) = mkTo s zs (j + 1) := by
  refine mk_ext (by rw [List.length_set, mkTo_len, mkTo_len]) (fun i hi => ?_)
  rw [List.length_set, mkTo_len] at hi
  rw [getD_setF (by rw [mkTo_len]; exact h), mkTo_get s zs j hi, mkTo_get s zs (j + 1) hi]
  by_cases e : i = j
  · subst e; rw [if_pos rfl, if_pos (by omega)]
  · rw [if_neg e]
    by_cases c : i < j
    · rw [if_pos c, if_pos (by omega)]
    · rw [if_neg c, if_neg (by omega)]
theorem mkTo_end (s : Int) (zs : List Int) : mkTo s zs zs.length = mkS s zs.length := by
  refine mk_ext (by rw [mkTo_len, mkS_len]) (fun i hi => ?_)
  rw [mkTo_len] at hi
  rw [mkTo_get s zs _ hi, if_pos hi, mkS_get s _ hi]
/-- a row of the call's own that begins with numbers: nil, or a block -/
def RowF (w : World) (base : Nat) (t : TypeId) (v : Value) (n : Nat) (zs : List Int) : Prop := (v = .slice none 0 0 ∧ n = 0) ∨ ∃ g cap, v = .slice (some ⟨g, 0, none⟩) n cap ∧ base ≤ g ∧ Flat w g t zs ∧ n ≤ cap
theorem RowF.next {w w' : World} {base n : Nat} {t : TypeId} {v : Value} {zs : List Int} (h : RowF w base t v n zs) (hb : Below w.heap.size w w') : RowF w' base t v n zs := by
  rcases h with h | ⟨g, cap, hv, hg, F, hc⟩
  · exact .inl h
  · exact .inr ⟨g, cap, hv, hg, F.next hb, hc⟩
theorem RowF.base {w : World} {a b n : Nat} {t : TypeId} {v : Value} {zs : List Int} (h : RowF w b t v n zs) (hab : a ≤ b) : RowF w a t v n zs := by
  rcases h with h | ⟨g, cap, hv, hg, r⟩
  · exact .inl h
  · exact .inr ⟨g, cap, hv, Nat.le_trans hab hg, r⟩
/-- a row of another type has another block -/
theorem Flat.type_ne {w : World} {g g' : Nat} {t t' : TypeId} {zs zs' : List Int} (h : Flat w g t zs) (h' : Flat w g' t' zs') (hne : t ≠ t') : g ≠ g' := by
  rintro rfl
  obtain ⟨cs, hb, _⟩ := h
  obtain ⟨cs', hb', _⟩ := h'
  rw [hb] at hb'
  injection hb' with e
  injection e with _ e2
  exact hne e2
theorem RowF.apart {w w' : World} {base n base' n' : Nat} {t t' : TypeId} {v v' : Value} {zs zs' : List Int} (h : RowF w base t v n zs) (h' : RowF w base' t' v' n' zs') (hne : t ≠ t') (hG : w.grownBy w' v'.ownBlock) : RowF w' base t v n zs := by
  rcases h with h | ⟨g, cap, hv, hg, F, hc⟩
  · exact .inl h
  · refine .inr ⟨g, cap, hv, hg, F.of_block (hG.block g F.lt ?_), hc⟩
    rcases h' with ⟨e, _⟩ | ⟨g', cap', e, _, F', _⟩
    · rw [e]; intro c; cases c
    · rw [e]; intro c
      injection c with c
      exact F.type_ne F' hne c
theorem RowF.far {w w' : World} {base n : Nat} {t : TypeId} {v : Value} {zs : List Int} {row : Option Nat} (h : RowF w base t v n zs) (hG : w.grownBy w' row) (hr : ∀ q, row = some q → q < base) : RowF w' base t v n zs := by
  rcases h with h | ⟨g, cap, hv, hg, F, hc⟩
  · exact .inl h
  · refine .inr ⟨g, cap, hv, hg, F.of_block (hG.block g F.lt ?_), hc⟩
    intro c
    have := hr g c.symm
    omega
theorem RowF.lt {w : World} {base n : Nat} {t : TypeId} {v : Value} {zs : List Int} (h : RowF w base t v n zs) : ∀ q, v.ownBlock = some q → base ≤ q ∧ q < w.heap.size := by
  rcases h with ⟨e, _⟩ | ⟨g, cap, e, hg, F, _⟩
  · rw [e]; intro q c; cases c
  · rw [e]; intro q c
    injection c with c
    have c : g = q := c
    subst c; exact ⟨hg, F.lt⟩
theorem below_rowF {w a b : World} {base n : Nat} {t : TypeId} {v : Value} {zs : List Int} (h : Below w.heap.size w a) (hR : RowF a base t v n zs) (hb : w.heap.size ≤ base) (hG : a.grownBy b v.ownBlock) : Below w.heap.size w b :=
  h.grown hG h.size (fun q hq => Nat.le_trans hb (hR.lt q hq).1)
end Go.Proofs.Ytgmmdpdlekpmfac
namespace Go.Proofs.Ytgmmdpdlekpmfac
open Go.RowKit
set_option linter.unusedSimpArgs false
set_option linter.unusedVariables false
theorem rowN {w w' : World} {base n size : Nat} {t : TypeId} {v : Value} {xs : List Value} (h : w.ownsRow base t size v n xs) (hb : Below w.heap.size w w') : w'.ownsRow base t size v n xs := by
  refine ⟨h.1, ?_⟩
  rcases h.2 with h0 | ⟨g, cap, cur, hv, hg, hb0, r⟩
  · exact .inl h0
  · exact .inr ⟨g, cap, cur, hv, hg, (hb.block g (Blk.lt hb0)).trans hb0, r⟩
theorem rowH {w w' : World} {base n size : Nat} {t : TypeId} {v : Value} {xs : List Value} (h : w.ownsRow base t size v n xs) (hk : ∀ (g : Nat) (cs : Array Value), w.heap[g]? = some (Obj.cells cs t (0, 0)) → w'.heap[g]? = w.heap[g]?) : w'.ownsRow base t size v n xs := by
  refine ⟨h.1, ?_⟩
  rcases h.2 with h0 | ⟨g, cap, cur, hv, hg, hb0, r⟩
  · exact .inl h0
  · exact .inr ⟨g, cap, cur, hv, hg, (hk g cur hb0).trans hb0, r⟩
theorem blk_type {w : World} {b g : Nat} {t t' : TypeId} {cs cs' : Array Value} (K : Blk w b t cs) (h : w.heap[g]? = some (Obj.cells cs' t' (0, 0))) (hne : t ≠ t') : g ≠ b := by
  rintro rfl
  unfold Blk at K
  rw [K] at h
  injection h with e
  injection e with _ e2
  exact hne e2
theorem rowS {w : World} {base n size b : Nat} {t t' : TypeId} {v : Value} {xs : List Value} {cs : Array Value} (h : w.ownsRow base t size v n xs) (K : Blk w b t' cs) (hne : t' ≠ t) (j : Nat) (x : Value) : (w.setCell ⟨b, j, none⟩ x).ownsRow base t size v n xs :=
  rowH h (fun g cs' hg => Below.heap_setCell w ⟨b, j, none⟩ x g (blk_type K hg hne))
theorem rowG {w w' : World} {base n size : Nat} {t : TypeId} {v : Value} {xs : List Value} {O : Obj} (h : w.ownsRow base t size v n xs) (hG : (w.alloc O).grownBy w' (some w.heap.size)) : w'.ownsRow base t size v n xs :=
  rowH h (fun g cs hg => by
    have hlt : g < w.heap.size := Blk.lt hg
    exact (hG.block g (by simp; omega) (fun e => by injection e with e; omega)).trans (Below.heap_alloc w O g hlt))
theorem blkN {w w' : World} {g : Nat} {t : TypeId} {cs : Array Value} {O : Obj} (h : Blk w g t cs) (hG : (w.alloc O).grownBy w' (some w.heap.size)) : Blk w' g t cs :=
  (h.alloc O).grown hG (fun e => by injection e with e; exact absurd h.lt (by omega))
theorem belN {w0 w w' : World} {O : Obj} (h : Below w0.heap.size w0 w) (hG : (w.alloc O).grownBy w' (some w.heap.size)) : Below w0.heap.size w0 w' :=
  (h.alloc h.size O).grown hG (by have := h.size; simp; omega) (fun q e => by injection e with e; have := h.size; omega)
theorem own_form {w : World} {base n size : Nat} {t : TypeId} {v : Value} {xs : List Value} (h : w.ownsRow base t size v n xs) : ∃ b k, v = .slice b n k ∧ n ≤ k := by
  rcases h.2 with ⟨e, h0⟩ | ⟨g, cap, cur, e, _, _, hc, _⟩
  · exact ⟨none, 0, by rw [e, h0], by omega⟩
  · exact ⟨_, _, e, hc⟩
theorem own_rowF {w : World} {base n size : Nat} {t : TypeId} {v : Value} {zs : List Int} (h : w.ownsRow base t size v n (zs.map (Value.int .i64))) : RowF w base t v n zs := Flat.own h
/-- 6 cells of a block stored anew -/
def sets6 (w : World) (b : Nat) (v0 v1 v2 v3 v4 v5 : Value) : World := ((((((w.setCell ⟨b, 0, none⟩ v0).setCell ⟨b, 1, none⟩ v1).setCell ⟨b, 2, none⟩ v2).setCell ⟨b, 3, none⟩ v3).setCell ⟨b, 4, none⟩ v4).setCell ⟨b, 5, none⟩ v5)
theorem sets6_below {w W : World} {b : Nat} {v0 v1 v2 v3 v4 v5 : Value} (h : Below w.heap.size w W) (hb : w.heap.size ≤ b) : Below w.heap.size w (sets6 W b v0 v1 v2 v3 v4 v5) := ((((((h.setCell (p := ⟨b, 0, none⟩) hb v0).setCell (p := ⟨b, 1, none⟩) hb v1).setCell (p := ⟨b, 2, none⟩) hb v2).setCell (p := ⟨b, 3, none⟩) hb v3).setCell (p := ⟨b, 4, none⟩) hb v4).setCell (p := ⟨b, 5, none⟩) hb v5)
theorem sets6_blk {w : World} {b : Nat} {t : TypeId} {u0 u1 u2 u3 u4 u5 v0 v1 v2 v3 v4 v5 : Value} (h : Blk w b t #[u0, u1, u2, u3, u4, u5]) : Blk (sets6 w b v0 v1 v2 v3 v4 v5) b t #[v0, v1, v2, v3, v4, v5] := by
  have k := ((((((h.set_ 0 v0).set_ 1 v1).set_ 2 v2).set_ 3 v3).set_ 4 v4).set_ 5 v5)
  simp only [List.setIfInBounds_toArray, List.set_cons_zero, List.set_cons_succ] at k
  exact k
theorem rowX6 {w : World} {base n size b : Nat} {t t' : TypeId} {v : Value} {xs : List Value} {cs : Array Value} {v0 v1 v2 v3 v4 v5 : Value} (h : w.ownsRow base t size v n xs) (K : Blk w b t' cs) (hne : t' ≠ t) : (sets6 w b v0 v1 v2 v3 v4 v5).ownsRow base t size v n xs :=
  rowH h (fun g cs' hg => by
    have hn := blk_type K hg hne
    unfold sets6
    rw [Below.heap_setCell _ _ _ g hn, Below.heap_setCell _ _ _ g hn, Below.heap_setCell _ _ _ g hn, Below.heap_setCell _ _ _ g hn, Below.heap_setCell _ _ _ g hn, Below.heap_setCell _ _ _ g hn])
theorem cells6 {w : World} {g : Nat} {t : TypeId} {v0 v1 v2 v3 v4 v5 : Value} (h : Blk w g t #[v0, v1, v2, v3, v4, v5]) : w.cell? ⟨g, 0, none⟩ = some v0 ∧ w.cell? ⟨g, 1, none⟩ = some v1 ∧ w.cell? ⟨g, 2, none⟩ = some v2 ∧ w.cell? ⟨g, 3, none⟩ = some v3 ∧ w.cell? ⟨g, 4, none⟩ = some v4 ∧ w.cell? ⟨g, 5, none⟩ = some v5 := ⟨h.cell 0, h.cell 1, h.cell 2, h.cell 3, h.cell 4, h.cell 5⟩
/-- 9 cells of a block stored anew -/
def sets9 (w : World) (b : Nat) (v0 v1 v2 v3 v4 v5 v6 v7 v8 : Value) : World := (((((((((w.setCell ⟨b, 0, none⟩ v0).setCell ⟨b, 1, none⟩ v1).setCell ⟨b, 2, none⟩ v2).setCell ⟨b, 3, none⟩ v3).setCell ⟨b, 4, none⟩ v4).setCell ⟨b, 5, none⟩ v5).setCell ⟨b, 6, none⟩ v6).setCell ⟨b, 7, none⟩ v7).setCell ⟨b, 8, none⟩ v8)
theorem sets9_below {w W : World} {b : Nat} {v0 v1 v2 v3 v4 v5 v6 v7 v8 : Value} (h : Below w.heap.size w W) (hb : w.heap.size ≤ b) : Below w.heap.size w (sets9 W b v0 v1 v2 v3 v4 v5 v6 v7 v8) := (((((((((h.setCell (p := ⟨b, 0, none⟩) hb v0).setCell (p := ⟨b, 1, none⟩) hb v1).setCell (p := ⟨b, 2, none⟩) hb v2).setCell (p := ⟨b, 3, none⟩) hb v3).setCell (p := ⟨b, 4, none⟩) hb v4).setCell (p := ⟨b, 5, none⟩) hb v5).setCell (p := ⟨b, 6, none⟩) hb v6).setCell (p := ⟨b, 7, none⟩) hb v7).setCell (p := ⟨b, 8, none⟩) hb v8)
theorem sets9_blk {w : World} {b : Nat} {t : TypeId} {u0 u1 u2 u3 u4 u5 u6 u7 u8 v0 v1 v2 v3 v4 v5 v6 v7 v8 : Value} (h : Blk w b t #[u0, u1, u2, u3, u4, u5, u6, u7, u8]) : Blk (sets9 w b v0 v1 v2 v3 v4 v5 v6 v7 v8) b t #[v0, v1, v2, v3, v4, v5, v6, v7, v8] := by
  have k := (((((((((h.set_ 0 v0).set_ 1 v1).set_ 2 v2).set_ 3 v3).set_ 4 v4).set_ 5 v5).set_ 6 v6).set_ 7 v7).set_ 8 v8)
  simp only [List.setIfInBounds_toArray, List.set_cons_zero, List.set_cons_succ] at k
  exact k
theorem rowX9 {w : World} {base n size b : Nat} {t t' : TypeId} {v : Value} {xs : List Value} {cs : Array Value} {v0 v1 v2 v3 v4 v5 v6 v7 v8 : Value} (h : w.ownsRow base t size v n xs) (K : Blk w b t' cs) (hne : t' ≠ t) : (sets9 w b v0 v1 v2 v3 v4 v5 v6 v7 v8).ownsRow base t size v n xs :=
  rowH h (fun g cs' hg => by
    have hn := blk_type K hg hne
    unfold sets9
    rw [Below.heap_setCell _ _ _ g hn, Below.heap_setCell _ _ _ g hn, Below.heap_setCell _ _ _ g hn, Below.heap_setCell _ _ _ g hn, Below.heap_setCell _ _ _ g hn, Below.heap_setCell _ _ _ g hn, Below.heap_setCell _ _ _ g hn, Below.heap_setCell _ _ _ g hn, Below.heap_setCell _ _ _ g hn])
theorem cells9 {w : World} {g : Nat} {t : TypeId} {v0 v1 v2 v3 v4 v5 v6 v7 v8 : Value} (h : Blk w g t #[v0, v1, v2, v3, v4, v5, v6, v7, v8]) : w.cell? ⟨g, 0, none⟩ = some v0 ∧ w.cell? ⟨g, 1, none⟩ = some v1 ∧ w.cell? ⟨g, 2, none⟩ = some v2 ∧ w.cell? ⟨g, 3, none⟩ = some v3 ∧ w.cell? ⟨g, 4, none⟩ = some v4 ∧ w.cell? ⟨g, 5, none⟩ = some v5 ∧ w.cell? ⟨g, 6, none⟩ = some v6 ∧ w.cell? ⟨g, 7, none⟩ = some v7 ∧ w.cell? ⟨g, 8, none⟩ = some v8 := ⟨h.cell 0, h.cell 1, h.cell 2, h.cell 3, h.cell 4, h.cell 5, h.cell 6, h.cell 7, h.cell 8⟩
end Go.Proofs.Ytgmmdpdlekpmfac
namespace Go.Proofs.Ytgmmdpdlekpmfac
/-- what the model asks of the first k wishes of a list -/
def okW (n : Nat) (r : List Int) (k : Nat) : Bool := decide (0 ≤ r.getD k 0) && decide (r.getD k 0 < (n : Int)) && decide (r.getD k 0 ∉ r.take k)
/-- an order of n indices -/
def ordB (n : Nat) (r : List Int) : Bool := decide (r.length = n) && (List.range r.length).all (okW n r)
/-- valid wishes -/
def wishB (rs : List (List Int)) : Bool := decide (rs.length ≤ 8) && rs.all (ordB rs.length)
theorem has_all : ∀ (n : Nat) (l : List Int), (∀ i : Nat, i < n → (i : Int) ∈ l) → n ≤ l.length ∧ (l.length = n → l.Nodup ∧ ∀ x ∈ l, 0 ≤ x ∧ x < (n : Int)) := by
  intro n
  induction n with
  | zero =>
    intro l _
    refine ⟨Nat.zero_le _, fun h => ?_⟩
    have : l = [] := List.eq_nil_of_length_eq_zero h
    subst this
    exact ⟨List.nodup_nil, fun x hx => by simp at hx⟩
  | succ n ih =>
    intro l h
    have hn : (n : Int) ∈ l := h n (Nat.lt_succ_self n)
    have he : (l.erase (n : Int)).length = l.length - 1 := List.length_erase_of_mem hn
    have hpos : 0 < l.length := List.length_pos_of_mem hn
    obtain ⟨a, b⟩ := ih (l.erase (n : Int)) (fun i hi => (List.mem_erase_of_ne (by omega)).2 (h i (by omega)))
    refine ⟨by omega, fun hl => ?_⟩
    obtain ⟨c, d⟩ := b (by omega)
    have hp := List.perm_cons_erase hn
    refine ⟨hp.nodup_iff.2 (List.nodup_cons.2 ⟨fun hm => by have := d _ hm; omega, c⟩), fun x hx => ?_⟩
    rcases List.mem_cons.1 (hp.mem_iff.1 hx) with rfl | hm
    · omega
    · have := d x hm; omega
theorem in_all : ∀ (n : Nat) (l : List Int), l.Nodup → (∀ x ∈ l, 0 ≤ x ∧ x < (n : Int)) → l.length ≤ n ∧ (l.length = n → ∀ i : Nat, i < n → (i : Int) ∈ l) := by
  intro n
  induction n with
  | zero =>
    intro l _ h
    have : l = [] := List.eq_nil_iff_forall_not_mem.2 fun x hx => by have := h x hx; omega
    subst this
    exact ⟨Nat.le_refl _, fun _ i hi => absurd hi (Nat.not_lt_zero _)⟩
  | succ n ih =>
    intro l hd h
    by_cases hn : (n : Int) ∈ l
    · have he : (l.erase (n : Int)).length = l.length - 1 := List.length_erase_of_mem hn
      have hpos : 0 < l.length := List.length_pos_of_mem hn
      have hp := List.perm_cons_erase hn
      have hd2 := List.nodup_cons.1 (hp.nodup_iff.1 hd)
      obtain ⟨a, b⟩ := ih (l.erase (n : Int)) hd2.2 (fun x hx => by
        have h1 := h x (List.mem_of_mem_erase hx)
        have h2 : x ≠ (n : Int) := fun e => hd2.1 (by have h3 := hx; rw [e] at h3; exact h3)
        omega)
      refine ⟨by omega, fun hl i hi => ?_⟩
      by_cases e : i = n
      · subst e; exact hn
      · exact List.mem_of_mem_erase (b (by omega) i (by omega))
    · obtain ⟨a, b⟩ := ih l hd (fun x hx => by
        have h1 := h x hx
        have h2 : x ≠ (n : Int) := fun e => hn (by rw [← e]; exact hx)
        omega)
      exact ⟨by omega, fun hl => by omega⟩
theorem nodup_take {r : List Int} : r.Nodup ↔ ∀ k, k < r.length → r.getD k 0 ∉ r.take k := by
  have gd : ∀ k (hk : k < r.length), r.getD k 0 = r[k] := fun k hk => by rw [List.getD_eq_getElem?_getD, List.getElem?_eq_getElem hk]; rfl
  rw [List.nodup_iff_pairwise_ne, List.pairwise_iff_getElem]
  constructor
  · intro h k hk hm
    rw [gd k hk] at hm
    obtain ⟨i, hi, e⟩ := List.mem_take_iff_getElem.1 hm
    exact h i k (by omega) hk (by omega) e
  · intro h i j hi hj hij e
    have := h j hj
    rw [gd j hj, ← e] at this
    exact this (List.mem_take_iff_getElem.2 ⟨i, by omega, rfl⟩)
theorem ordB_iff (n : Nat) (r : List Int) : ordB n r = true ↔ r.length = n ∧ r.Nodup ∧ ∀ x ∈ r, 0 ≤ x ∧ x < (n : Int) := by
  have gd : ∀ k (hk : k < r.length), r.getD k 0 = r[k] := fun k hk => by rw [List.getD_eq_getElem?_getD, List.getElem?_eq_getElem hk]; rfl
  unfold ordB
  rw [Bool.and_eq_true, decide_eq_true_eq, rng_all, nodup_take]
  unfold okW
  simp only [Bool.and_eq_true, decide_eq_true_eq]
  constructor
  · rintro ⟨a, b⟩
    refine ⟨a, fun k hk => (b k hk).2, fun x hx => ?_⟩
    obtain ⟨k, hk, e⟩ := List.mem_iff_getElem.1 hx
    have := (b k hk).1
    rw [gd k hk, e] at this
    exact this
  · rintro ⟨a, b, c⟩
    exact ⟨a, fun k hk => ⟨by rw [gd k hk]; exact c _ (List.getElem_mem _), b k hk⟩⟩
/-- as the program asks it -/
def hasB (n : Nat) (r : List Int) : Bool := decide (r.length = n) && (List.range n).all fun i => decide ((i : Int) ∈ r)
theorem has_ord (n : Nat) (r : List Int) : hasB n r = ordB n r := by
  rw [Bool.eq_iff_iff, ordB_iff]
  unfold hasB
  rw [Bool.and_eq_true, decide_eq_true_eq, rng_all]
  simp only [decide_eq_true_eq]
  constructor
  · rintro ⟨a, b⟩
    exact ⟨a, (has_all n r b).2 a⟩
  · rintro ⟨a, b, c⟩
    exact ⟨a, (in_all n r b c).2 a⟩
end Go.Proofs.Ytgmmdpdlekpmfac
namespace Go.Proofs.Ytgmmdpdlekpmfac
open Go.RowKit

def okH (zs : List Int) (owner : Int) (k : Nat) : Bool := decide (1 ≤ zs.getD k 0) && decide (zs.getD k 0 ≤ 999) && decide (zs.getD k 0 ≠ owner) && decide (zs.getD k 0 ∉ zs.take k)
/-- heirs that there can be -/
def heirsB (zs : List Int) (owner : Int) : Bool := decide (1 ≤ zs.length) && decide (zs.length ≤ 12) && (List.range zs.length).all (okH zs owner)
theorem okH_def (zs : List Int) (owner : Int) (k : Nat) : okH zs owner k = (decide (1 ≤ zs.getD k 0) && decide (zs.getD k 0 ≤ 999) && decide (zs.getD k 0 ≠ owner) && decide (zs.getD k 0 ∉ zs.take k)) := rfl
theorem heirs_no1 {zs : List Int} {owner : Int} (h : zs.length < 1 ∨ 12 < zs.length) : heirsB zs owner = false := by
  unfold heirsB
  rcases h with h | h
  · rw [decide_eq_false (by omega : ¬ 1 ≤ zs.length)]; rfl
  · rw [decide_eq_false (by omega : ¬ zs.length ≤ 12)]; simp
theorem heirs_no2 {zs : List Int} {owner : Int} {k : Nat} (hk : k < zs.length) (h : okH zs owner k = false) : heirsB zs owner = false := by
  unfold heirsB; rw [rng_no hk h]; simp
theorem heirs_yes {zs : List Int} {owner : Int} (h1 : 1 ≤ zs.length) (h2 : zs.length ≤ 12) (h : ∀ j, j < zs.length → okH zs owner j = true) : heirsB zs owner = true := by
  unfold heirsB; rw [decide_eq_true h1, decide_eq_true h2, rng_yes h]; rfl
theorem ints_take {w : World} {a : Option Addr} {zs : List Int} (h : IsInts w a zs) (k : Nat) : IsInts w a (zs.take k) := by
  rcases h with rfl | ⟨g, o, ha, hc⟩
  · exact .inl (by simp)
  · refine .inr ⟨g, o, ha, fun i hi => ?_⟩
    rw [List.length_take] at hi
    have e : (zs.take k).getD i 0 = zs.getD i 0 := by rw [List.getD_eq_getElem?_getD, List.getD_eq_getElem?_getD, List.getElem?_take_of_lt (by omega)]
    rw [e]; exact hc i (by omega)
theorem mem_get {zs : List Int} {n : Int} : n ∈ zs ↔ ∃ j, j < zs.length ∧ zs.getD j 0 = n := by
  constructor
  · intro h
    obtain ⟨i, hi, e⟩ := List.getElem_of_mem h
    exact ⟨i, hi, by rw [List.getD_eq_getElem?_getD, List.getElem?_eq_getElem hi]; exact e⟩
  · rintro ⟨j, hj, e⟩
    rw [← e]; exact getD_mem hj

/-- what spec.placeIn leaves: a number of at least 0 where the number is in the list -/
def PlaceV (zs : List Int) (n : Int) (w : World) (e : Ending) (w' : World) : Prop := ∃ v : Int, e = .returned (.int .i64 v) ∧ (n ∈ zs → 0 ≤ v) ∧ (n ∉ zs → v = -1) ∧ w = w'
set_option maxHeartbeats 1000000 in
theorem splace (a : Option Addr) (cap m : Nat) (zs : List Int) (n : Int) (w : World) (h : IsInts w a zs) (hl : zs.length = m) (hn : m ≤ 1048576) :
    Calls Try.prog 144 #[.slice a m cap, .int .i64 n] w (PlaceV zs n w) := by
  subst hl
  rcases h with rfl | ⟨g, o, rfl, hc⟩
  · go_enter Try.func144, Try.ntmps144
    go_wp2
    go_rounds 1
    go_ret
    exact ⟨-1, rfl, (fun c => by simp at c), (fun _ => rfl), rfl⟩
  · have HC := Lib.hid hc
    clear hc
    go_enter Try.func144, Try.ntmps144
    go_wp2
    go_loop [5] (fun i => ∃ k : Nat, k ≤ zs.length ∧ i = .int .i64 k ∧ Hid (∀ j, j < k → zs.getD j 0 ≠ n)) (fun i => zs.length - (intOf i).toNat)
    case atStart => exact ⟨0, Nat.zero_le _, rfl, fun j hj => by omega⟩
    case round =>
      obtain ⟨k, hk, rfl, HK⟩ := hrel
      by_cases hlt : k < zs.length
      · have hc := HC.out k hlt
        have hy : zs.getD k 0 ≠ n → ∀ j, j < k + 1 → zs.getD j 0 ≠ n := fun e j hj => by
          by_cases ej : j = k
          · subst ej; exact e
          · exact HK.out j (by omega)
        have hm : zs.getD k 0 = n → n ∈ zs := fun e => mem_get.2 ⟨k, hlt, e⟩
        generalize zs.getD k 0 = z at hc hy hm
        have HY := Lib.hid hy
        have HM := Lib.hid hm
        clear hy hm
        by_cases e : z = n
        · have eb : (z == n) = true := by simpa using e
          have HMM := Lib.hid (HM.out e)
          clear e
          go_wp2_with fail
          go_ret
          exact ⟨(k : Int), rfl, (fun _ => by omega), (fun c => absurd HMM.out c), rfl⟩
        · have eb : (z == n) = false := by simpa using e
          go_wp2_with fail
          go_round
          case rel => exact ⟨k + 1, by omega, by go_num, HY.out e⟩
          case measure => simp [intOf]; omega
      · have HN : Hid (n ∉ zs) := by
          show _ ∉ _
          rw [mem_get]
          rintro ⟨j, hj, e⟩
          exact HK.out j (by omega) e
        go_wp2_with fail
        go_ret
        exact ⟨-1, rfl, (fun c => absurd c HN.out), (fun _ => rfl), rfl⟩

end Go.Proofs.Ytgmmdpdlekpmfac
namespace Go.Proofs.Ytgmmdpdlekpmfac
open Go.RowKit
set_option linter.unusedSimpArgs false
set_option linter.unusedVariables false

/-- at a lie the lists rs, in this world -/
def IsRows (w : World) (a : Option Addr) (rs : List (List Int)) : Prop := rs = [] ∨ ∃ g o, a = some ⟨g, o, none⟩ ∧ ∀ i, i < rs.length → ∃ A cap, w.cell? ⟨g, o + i, none⟩ = some (.slice A (rs.getD i []).length cap) ∧ (rs.getD i []).length ≤ cap ∧ IsInts w A (rs.getD i [])
theorem rows_below {w w' : World} {a : Option Addr} {rs : List (List Int)} (h : IsRows w a rs) (hB : Below w.heap.size w w') : IsRows w' a rs := by
  rcases h with h | ⟨g, o, ha, hc⟩
  · exact .inl h
  · refine .inr ⟨g, o, ha, fun i hi => ?_⟩
    obtain ⟨A, cap, c, hl, hi2⟩ := hc i hi
    exact ⟨A, cap, (hB.cell (World.block_lt_of_cell? w _ c)).trans c, hl, ints_below hi2 hB⟩
theorem has_no {n : Nat} {r : List Int} {k : Nat} (hk : k < n) (h : (k : Int) ∉ r) : hasB n r = false := by
  unfold hasB
  rw [Bool.and_eq_false_iff]
  exact .inr (rng_no hk (decide_eq_false h))
theorem has_len {n : Nat} {r : List Int} (h : r.length ≠ n) : hasB n r = false := by
  unfold hasB; rw [decide_eq_false h]; rfl
theorem has_yes {n : Nat} {r : List Int} (h : r.length = n) (h2 : ∀ k : Nat, k < n → (k : Int) ∈ r) : hasB n r = true := by
  unfold hasB; rw [decide_eq_true h, rng_yes fun j hj => decide_eq_true (h2 j hj)]; rfl

theorem wish_no1 {rs : List (List Int)} (h : 8 < rs.length) : wishB rs = false := by unfold wishB; rw [decide_eq_false (by omega)]; rfl
theorem rows_mem {rs : List (List Int)} {k : Nat} (h : k < rs.length) : rs.getD k [] ∈ rs := by
  rw [List.getD_eq_getElem?_getD, List.getElem?_eq_getElem h]; exact List.getElem_mem _
theorem wish_no2 {rs : List (List Int)} {k : Nat} (h : k < rs.length) (h2 : ordB rs.length (rs.getD k []) = false) : wishB rs = false := by
  unfold wishB
  rw [Bool.and_eq_false_iff]
  refine .inr ?_
  rw [Bool.eq_false_iff]
  intro c
  rw [List.all_eq_true] at c
  rw [c _ (rows_mem h)] at h2
  cases h2
theorem wish_yes {rs : List (List Int)} (h : rs.length ≤ 8) (h2 : ∀ k, k < rs.length → ordB rs.length (rs.getD k []) = true) : wishB rs = true := by
  unfold wishB
  rw [decide_eq_true h, Bool.true_and, List.all_eq_true]
  intro x hx
  obtain ⟨k, hk, e⟩ := List.mem_iff_getElem.1 hx
  have := h2 k hk
  rwa [List.getD_eq_getElem?_getD, List.getElem?_eq_getElem hk, Option.getD_some, e] at this

end Go.Proofs.Ytgmmdpdlekpmfac
namespace Go.Proofs.Ytgmmdpdlekpmfac
open Go.RowKit
set_option linter.unusedSimpArgs false
set_option linter.unusedVariables false
/-- what is told of lists of numbers that came in -/
def RowsIn (w : World) (a : Option Addr) (len cap : Nat) (rs : List (List Int)) : Prop := rs.length = len ∧ IsRows w a rs ∧ len ≤ cap ∧ cap ≤ maxLen ∧ ∀ r ∈ rs, r.length ≤ maxLen
/-- what is left behind the sizes of lists -/
def szL : Int → List (List Int) → Int
  | left, [] => left
  | left, r :: t => if left - (r.length : Int) < 0 then -1 else szL (left - (r.length : Int)) t
def szSS (left : Int) (rs : List (List Int)) : Int := if left - (rs.length : Int) < 0 then -1 else szL (left - (rs.length : Int)) rs
theorem szL_pos : ∀ (rs : List (List Int)) (left : Int), ¬ szL left rs < 0 → 0 ≤ left → ∀ r ∈ rs, (r.length : Int) ≤ left := by
  intro rs
  induction rs with
  | nil => intro left _ _ r h; cases h
  | cons x t ih =>
    intro left h h0 r hr
    have e : szL left (x :: t) = if left - (x.length : Int) < 0 then -1 else szL (left - (x.length : Int)) t := rfl
    rw [e] at h
    by_cases c : left - (x.length : Int) < 0
    · rw [if_pos c] at h; omega
    · rw [if_neg c] at h
      rcases List.mem_cons.1 hr with rfl | hr
      · omega
      · have := ih _ h (by omega) r hr; omega
theorem szSS_pos {left : Int} {rs : List (List Int)} (h : ¬ szSS left rs < 0) (h0 : 0 ≤ left) : (rs.length : Int) ≤ left ∧ ∀ r ∈ rs, (r.length : Int) ≤ left := by
  unfold szSS at h
  by_cases c : left - (rs.length : Int) < 0
  · rw [if_pos c] at h; omega
  · rw [if_neg c] at h
    exact ⟨by omega, fun r hr => by have := szL_pos rs _ h (by omega) r hr; omega⟩
end Go.Proofs.Ytgmmdpdlekpmfac
namespace Go.Proofs.Ytgmmdpdlekpmfac
open Go.RowKit
set_option linter.unusedSimpArgs false
set_option linter.unusedVariables false
theorem infoRowL : (Try.prog.info? 24).map (fun i => (i.zero, i.size, i.bytes)) = some (some (.slice none 0 0), 1, 24) := by kernel_rfl
theorem rows_nth {w : World} {a : Option Addr} {rs : List (List Int)} (h : IsRows w a rs) {k : Nat} (hk : k < rs.length) : ∃ g o A cap, a = some ⟨g, o, none⟩ ∧ w.cell? ⟨g, o + k, none⟩ = some (.slice A (rs.getD k []).length cap) ∧ (rs.getD k []).length ≤ cap ∧ IsInts w A (rs.getD k []) := by
  rcases h with rfl | ⟨g, o, rfl, hc⟩
  · simp at hk
  · obtain ⟨A, cap, a, b, c⟩ := hc k hk
    exact ⟨g, o, A, cap, rfl, a, b, c⟩
theorem ret_z {z y : Int} (h : z = y) : Ending.returned (.int .i64 z) = Ending.returned (.int .i64 y) := by rw [h]
theorem szL_at {rs : List (List Int)} {k : Nat} (hk : k < rs.length) (L : Int) : szL L (rs.drop k) = if L - ((rs.getD k []).length : Int) < 0 then -1 else szL (L - ((rs.getD k []).length : Int)) (rs.drop (k + 1)) := by
  rw [List.drop_eq_getElem_cons hk]
  rw [List.getD_eq_getElem?_getD, List.getElem?_eq_getElem hk]; rfl
theorem lszI (A : Option Addr) (n cap : Nat) (L : Int) (w : World) (h0 : 0 ≤ L) (h1 : L ≤ 1048576) (hn : n ≤ 9223372036854775807) :
    Calls Try.prog 84 #[.slice A n cap, .int .i64 L] w fun e w' => e = .returned (.int .i64 (if L - (n : Int) < 0 then -1 else L - (n : Int))) ∧ w = w' := by
  have wz : IntKind.i64.wrap (L - (n : Int)) = L - (n : Int) := by rw [IntKind.wrap_i64]; omega
  by_cases c : L - (n : Int) < 0
  · have e0 : decide (L - (n : Int) < 0) = true := decide_eq_true c
    rw [if_pos c]
    clear c
    go_enter Try.func84, Try.ntmps84
    go_wp2_with fail
    go_ret
    exact ⟨rfl, rfl⟩
  · have e0 : decide (L - (n : Int) < 0) = false := decide_eq_false c
    rw [if_neg c]
    clear c
    go_enter Try.func84, Try.ntmps84
    go_wp2_with fail
    go_ret
    exact ⟨rfl, rfl⟩
/-- block g is a row of lists of the call's own, each in a block of its own -/
def RowSS (w : World) (g : Nat) (G : Nat → Nat) (n : Nat) (rs : List (List Int)) : Prop := (w.rowIs g 24 rs.length fun j => if j < n then .slice (some ⟨G j, 0, none⟩) (rs.getD j []).length (rs.getD j []).length else .slice none 0 0) ∧ (∀ j, j < n → g < G j ∧ Row w (G j) (rs.getD j [])) ∧ ∀ i j, i < j → j < n → G i < G j
theorem RowSS.rows {w : World} {g : Nat} {G : Nat → Nat} {rs : List (List Int)} (h : RowSS w g G rs.length rs) : IsRows w (some ⟨g, 0, none⟩) rs := by
  refine .inr ⟨g, 0, rfl, fun i hi => ⟨some ⟨G i, 0, none⟩, (rs.getD i []).length, ?_, Nat.le_refl _, row_ints (h.2.1 i hi).2⟩⟩
  have := h.1.cell hi
  rw [if_pos hi] at this
  rw [Nat.zero_add]; exact this
/-- what toIntSS leaves -/
def CopiedSS (w : World) (rs : List (List Int)) (e : Ending) (w' : World) : Prop := ∃ (g : Nat) (G : Nat → Nat), e = .returned (.slice (some ⟨g, 0, none⟩) rs.length rs.length) ∧ w.heap.size ≤ g ∧ RowSS w' g G rs.length rs ∧ Below w.heap.size w w'
end Go.Proofs.Ytgmmdpdlekpmfac
namespace Go.Proofs.Ytgmmdpdlekpmfac
open Go.RowKit
set_option linter.unusedSimpArgs false
set_option linter.unusedVariables false

/-- laws.szLeaseS -/
theorem lszLs (A : Option Addr) (n cap : Nat) (L : Int) (w : World) (h0 : 0 ≤ L) (h1 : L ≤ 1048576) (hn : n ≤ 9223372036854775807) :
    Calls Try.prog 37 #[.slice A n cap, .int .i64 L] w fun e w' => e = .returned (.int .i64 (if L - (n : Int) < 0 then -1 else L - (n : Int))) ∧ w = w' := by
  have wz : IntKind.i64.wrap (L - (n : Int)) = L - (n : Int) := by rw [IntKind.wrap_i64]; omega
  by_cases c : L - (n : Int) < 0
  · have e0 : decide (L - (n : Int) < 0) = true := decide_eq_true c
    rw [if_pos c]
    clear c
    go_enter Try.func37, Try.ntmps37
    go_wp2_with fail
    go_ret
    exact ⟨rfl, rfl⟩
  · have e0 : decide (L - (n : Int) < 0) = false := decide_eq_false c
    rw [if_neg c]
    clear c
    go_enter Try.func37, Try.ntmps37
    go_wp2_with fail
    go_ret
    exact ⟨rfl, rfl⟩
set_option maxRecDepth 100000 in
set_option maxHeartbeats 6000000 in
/-- laws.toLease -/
theorem ltoLr (x : Lr) (w : World) :
    Calls Try.prog 73 #[.agg #[.int .i64 x.ow, .int .i64 x.te, .int .i64 x.n, .int .i64 x.d, .int .i64 x.fr, .int .i64 x.en]] w fun e w' => e = .returned (.agg #[.int .i64 x.ow, .int .i64 x.te, .int .i64 x.n, .int .i64 x.d, .int .i64 x.fr, .int .i64 x.en]) ∧ Below w.heap.size w w' := by
  obtain ⟨ow, te, n, d, fr, en⟩ := x
  dsimp only
  go_enter Try.func73, Try.ntmps73
  have KA := ((Blk.new w 112 #[.int .i64 ow, .int .i64 te, .int .i64 n, .int .i64 d, .int .i64 fr, .int .i64 en]).alloc (.cells #[.int .i64 0, .int .i64 0, .int .i64 0, .int .i64 0, .int .i64 0, .int .i64 0] 109)).alloc (.cells #[.int .i64 0, .int .i64 0, .int .i64 0, .int .i64 0, .int .i64 0, .int .i64 0] 109)
  have KR : Blk (((w.alloc (.cells #[.int .i64 ow, .int .i64 te, .int .i64 n, .int .i64 d, .int .i64 fr, .int .i64 en] 112)).alloc (.cells #[.int .i64 0, .int .i64 0, .int .i64 0, .int .i64 0, .int .i64 0, .int .i64 0] 109)).alloc (.cells #[.int .i64 0, .int .i64 0, .int .i64 0, .int .i64 0, .int .i64 0, .int .i64 0] 109)) (w.heap.size + 1) 109 #[.int .i64 0, .int .i64 0, .int .i64 0, .int .i64 0, .int .i64 0, .int .i64 0] := by
    have := (Blk.new (w.alloc (.cells #[.int .i64 ow, .int .i64 te, .int .i64 n, .int .i64 d, .int .i64 fr, .int .i64 en] 112)) 109 #[.int .i64 0, .int .i64 0, .int .i64 0, .int .i64 0, .int .i64 0, .int .i64 0]).alloc (.cells #[.int .i64 0, .int .i64 0, .int .i64 0, .int .i64 0, .int .i64 0, .int .i64 0] 109)
    rw [World.size_alloc] at this; exact this
  have KO : Blk (((w.alloc (.cells #[.int .i64 ow, .int .i64 te, .int .i64 n, .int .i64 d, .int .i64 fr, .int .i64 en] 112)).alloc (.cells #[.int .i64 0, .int .i64 0, .int .i64 0, .int .i64 0, .int .i64 0, .int .i64 0] 109)).alloc (.cells #[.int .i64 0, .int .i64 0, .int .i64 0, .int .i64 0, .int .i64 0, .int .i64 0] 109)) (w.heap.size + 1 + 1) 109 #[.int .i64 0, .int .i64 0, .int .i64 0, .int .i64 0, .int .i64 0, .int .i64 0] := by
    have := Blk.new ((w.alloc (.cells #[.int .i64 ow, .int .i64 te, .int .i64 n, .int .i64 d, .int .i64 fr, .int .i64 en] 112)).alloc (.cells #[.int .i64 0, .int .i64 0, .int .i64 0, .int .i64 0, .int .i64 0, .int .i64 0] 109)) 109 #[.int .i64 0, .int .i64 0, .int .i64 0, .int .i64 0, .int .i64 0, .int .i64 0]
    rw [World.size_alloc, World.size_alloc] at this; exact this
  have B : Below w.heap.size w (((w.alloc (.cells #[.int .i64 ow, .int .i64 te, .int .i64 n, .int .i64 d, .int .i64 fr, .int .i64 en] 112)).alloc (.cells #[.int .i64 0, .int .i64 0, .int .i64 0, .int .i64 0, .int .i64 0, .int .i64 0] 109)).alloc (.cells #[.int .i64 0, .int .i64 0, .int .i64 0, .int .i64 0, .int .i64 0, .int .i64 0] 109)) := by go_grown
  have HS0 : Hid (Blk (((w.alloc (.cells #[.int .i64 ow, .int .i64 te, .int .i64 n, .int .i64 d, .int .i64 fr, .int .i64 en] 112)).alloc (.cells #[.int .i64 0, .int .i64 0, .int .i64 0, .int .i64 0, .int .i64 0, .int .i64 0] 109)).alloc (.cells #[.int .i64 0, .int .i64 0, .int .i64 0, .int .i64 0, .int .i64 0, .int .i64 0] 109)) (w.heap.size) 112 #[.int .i64 ow, .int .i64 te, .int .i64 n, .int .i64 d, .int .i64 fr, .int .i64 en] ∧ Blk (((w.alloc (.cells #[.int .i64 ow, .int .i64 te, .int .i64 n, .int .i64 d, .int .i64 fr, .int .i64 en] 112)).alloc (.cells #[.int .i64 0, .int .i64 0, .int .i64 0, .int .i64 0, .int .i64 0, .int .i64 0] 109)).alloc (.cells #[.int .i64 0, .int .i64 0, .int .i64 0, .int .i64 0, .int .i64 0, .int .i64 0] 109)) (w.heap.size + 1) 109 #[.int .i64 0, .int .i64 0, .int .i64 0, .int .i64 0, .int .i64 0, .int .i64 0] ∧ Blk (((w.alloc (.cells #[.int .i64 ow, .int .i64 te, .int .i64 n, .int .i64 d, .int .i64 fr, .int .i64 en] 112)).alloc (.cells #[.int .i64 0, .int .i64 0, .int .i64 0, .int .i64 0, .int .i64 0, .int .i64 0] 109)).alloc (.cells #[.int .i64 0, .int .i64 0, .int .i64 0, .int .i64 0, .int .i64 0, .int .i64 0] 109)) (w.heap.size + 1 + 1) 109 #[.int .i64 0, .int .i64 0, .int .i64 0, .int .i64 0, .int .i64 0, .int .i64 0] ∧ Below w.heap.size w (((w.alloc (.cells #[.int .i64 ow, .int .i64 te, .int .i64 n, .int .i64 d, .int .i64 fr, .int .i64 en] 112)).alloc (.cells #[.int .i64 0, .int .i64 0, .int .i64 0, .int .i64 0, .int .i64 0, .int .i64 0] 109)).alloc (.cells #[.int .i64 0, .int .i64 0, .int .i64 0, .int .i64 0, .int .i64 0, .int .i64 0] 109))) := ⟨KA, KR, KO, B⟩
  clear KA KR KO B
  go_wp2_with (first | (show wpList _ _ _ _ _ (((w.alloc (.cells #[.int .i64 ow, .int .i64 te, .int .i64 n, .int .i64 d, .int .i64 fr, .int .i64 en] 112)).alloc (.cells #[.int .i64 0, .int .i64 0, .int .i64 0, .int .i64 0, .int .i64 0, .int .i64 0] 109)).alloc (.cells #[.int .i64 0, .int .i64 0, .int .i64 0, .int .i64 0, .int .i64 0, .int .i64 0] 109)); generalize ((w.alloc (.cells #[.int .i64 ow, .int .i64 te, .int .i64 n, .int .i64 d, .int .i64 fr, .int .i64 en] 112)).alloc (.cells #[.int .i64 0, .int .i64 0, .int .i64 0, .int .i64 0, .int .i64 0, .int .i64 0] 109)).alloc (.cells #[.int .i64 0, .int .i64 0, .int .i64 0, .int .i64 0, .int .i64 0, .int .i64 0] 109) = u0 at HS0 ⊢; obtain ⟨KA, KR, KO, B⟩ := HS0.out; clear HS0; have fz := KO.frozen 0; have HS1 : Hid (Blk (World.setCell u0 ⟨w.heap.size + 1 + 1, 0, none⟩ (.int .i64 ow)) (w.heap.size) 112 #[.int .i64 ow, .int .i64 te, .int .i64 n, .int .i64 d, .int .i64 fr, .int .i64 en] ∧ Blk (World.setCell u0 ⟨w.heap.size + 1 + 1, 0, none⟩ (.int .i64 ow)) (w.heap.size + 1) 109 #[.int .i64 0, .int .i64 0, .int .i64 0, .int .i64 0, .int .i64 0, .int .i64 0] ∧ Blk (World.setCell u0 ⟨w.heap.size + 1 + 1, 0, none⟩ (.int .i64 ow)) (w.heap.size + 1 + 1) 109 #[.int .i64 ow, .int .i64 0, .int .i64 0, .int .i64 0, .int .i64 0, .int .i64 0] ∧ Below w.heap.size w (World.setCell u0 ⟨w.heap.size + 1 + 1, 0, none⟩ (.int .i64 ow))) := ⟨KA.far (p := ⟨w.heap.size + 1 + 1, 0, none⟩) (by show w.heap.size ≠ w.heap.size + 1 + 1; omega) (.int .i64 ow), KR.far (p := ⟨w.heap.size + 1 + 1, 0, none⟩) (by show w.heap.size + 1 ≠ w.heap.size + 1 + 1; omega) (.int .i64 ow), (by have q := KO.set_ 0 (.int .i64 ow); simp only [List.setIfInBounds_toArray, List.set_cons_zero, List.set_cons_succ] at q; exact q), B.setCell (p := ⟨w.heap.size + 1 + 1, 0, none⟩) (by show w.heap.size ≤ w.heap.size + 1 + 1; omega) (.int .i64 ow)⟩; obtain ⟨qA_0, qA_1, qA_2, qA_3, qA_4, qA_5⟩ := cells6 KA; obtain ⟨qR_0, qR_1, qR_2, qR_3, qR_4, qR_5⟩ := cells6 KR; obtain ⟨qO_0, qO_1, qO_2, qO_3, qO_4, qO_5⟩ := cells6 KO; clear KA KR KO B) | (show wpList _ _ _ _ _ (World.setCell u0 _ _); clear fz; clear qA_0 qA_1 qA_2 qA_3 qA_4 qA_5 qR_0 qR_1 qR_2 qR_3 qR_4 qR_5 qO_0 qO_1 qO_2 qO_3 qO_4 qO_5; generalize World.setCell u0 ⟨w.heap.size + 1 + 1, 0, none⟩ (.int .i64 ow) = y1s at HS1 ⊢; obtain ⟨KA, KR, KO, B⟩ := HS1.out; clear HS1; have fz := KO.frozen 1; have HS2 : Hid (Blk (World.setCell y1s ⟨w.heap.size + 1 + 1, 1, none⟩ (.int .i64 te)) (w.heap.size) 112 #[.int .i64 ow, .int .i64 te, .int .i64 n, .int .i64 d, .int .i64 fr, .int .i64 en] ∧ Blk (World.setCell y1s ⟨w.heap.size + 1 + 1, 1, none⟩ (.int .i64 te)) (w.heap.size + 1) 109 #[.int .i64 0, .int .i64 0, .int .i64 0, .int .i64 0, .int .i64 0, .int .i64 0] ∧ Blk (World.setCell y1s ⟨w.heap.size + 1 + 1, 1, none⟩ (.int .i64 te)) (w.heap.size + 1 + 1) 109 #[.int .i64 ow, .int .i64 te, .int .i64 0, .int .i64 0, .int .i64 0, .int .i64 0] ∧ Below w.heap.size w (World.setCell y1s ⟨w.heap.size + 1 + 1, 1, none⟩ (.int .i64 te))) := ⟨KA.far (p := ⟨w.heap.size + 1 + 1, 1, none⟩) (by show w.heap.size ≠ w.heap.size + 1 + 1; omega) (.int .i64 te), KR.far (p := ⟨w.heap.size + 1 + 1, 1, none⟩) (by show w.heap.size + 1 ≠ w.heap.size + 1 + 1; omega) (.int .i64 te), (by have q := KO.set_ 1 (.int .i64 te); simp only [List.setIfInBounds_toArray, List.set_cons_zero, List.set_cons_succ] at q; exact q), B.setCell (p := ⟨w.heap.size + 1 + 1, 1, none⟩) (by show w.heap.size ≤ w.heap.size + 1 + 1; omega) (.int .i64 te)⟩; obtain ⟨qA_0, qA_1, qA_2, qA_3, qA_4, qA_5⟩ := cells6 KA; obtain ⟨qR_0, qR_1, qR_2, qR_3, qR_4, qR_5⟩ := cells6 KR; obtain ⟨qO_0, qO_1, qO_2, qO_3, qO_4, qO_5⟩ := cells6 KO; clear KA KR KO B) | (show wpList _ _ _ _ _ (World.setCell y1s _ _); clear fz; clear qA_0 qA_1 qA_2 qA_3 qA_4 qA_5 qR_0 qR_1 qR_2 qR_3 qR_4 qR_5 qO_0 qO_1 qO_2 qO_3 qO_4 qO_5; generalize World.setCell y1s ⟨w.heap.size + 1 + 1, 1, none⟩ (.int .i64 te) = y2s at HS2 ⊢; obtain ⟨KA, KR, KO, B⟩ := HS2.out; clear HS2; obtain ⟨qA_0, qA_1, qA_2, qA_3, qA_4, qA_5⟩ := cells6 KA; obtain ⟨qR_0, qR_1, qR_2, qR_3, qR_4, qR_5⟩ := cells6 KR; obtain ⟨qO_0, qO_1, qO_2, qO_3, qO_4, qO_5⟩ := cells6 KO))
  refine (ltoFrac n d _).mono ?_
  rintro e u1 ⟨rfl, C⟩
  clear qA_0 qA_1 qA_2 qA_3 qA_4 qA_5 qR_0 qR_1 qR_2 qR_3 qR_4 qR_5 qO_0 qO_1 qO_2 qO_3 qO_4 qO_5
  replace KA := KA.next C
  replace KR := KR.next C
  replace KO := KO.next C
  replace B := bel_tr B C
  clear C
  have fz := KO.frozen 2
  have fz2 := KO.frozen 3
  have HS3 : Hid (Blk (World.setCell (World.setCell u1 ⟨w.heap.size + 1 + 1, 2, none⟩ (.int .i64 n)) ⟨w.heap.size + 1 + 1, 3, none⟩ (.int .i64 d)) (w.heap.size) 112 #[.int .i64 ow, .int .i64 te, .int .i64 n, .int .i64 d, .int .i64 fr, .int .i64 en] ∧ Blk (World.setCell (World.setCell u1 ⟨w.heap.size + 1 + 1, 2, none⟩ (.int .i64 n)) ⟨w.heap.size + 1 + 1, 3, none⟩ (.int .i64 d)) (w.heap.size + 1) 109 #[.int .i64 0, .int .i64 0, .int .i64 0, .int .i64 0, .int .i64 0, .int .i64 0] ∧ Blk (World.setCell (World.setCell u1 ⟨w.heap.size + 1 + 1, 2, none⟩ (.int .i64 n)) ⟨w.heap.size + 1 + 1, 3, none⟩ (.int .i64 d)) (w.heap.size + 1 + 1) 109 #[.int .i64 ow, .int .i64 te, .int .i64 n, .int .i64 d, .int .i64 0, .int .i64 0] ∧ Below w.heap.size w (World.setCell (World.setCell u1 ⟨w.heap.size + 1 + 1, 2, none⟩ (.int .i64 n)) ⟨w.heap.size + 1 + 1, 3, none⟩ (.int .i64 d))) := ⟨(KA.far (p := ⟨w.heap.size + 1 + 1, 2, none⟩) (by show w.heap.size ≠ w.heap.size + 1 + 1; omega) (.int .i64 n)).far (p := ⟨w.heap.size + 1 + 1, 3, none⟩) (by show w.heap.size ≠ w.heap.size + 1 + 1; omega) (.int .i64 d), (KR.far (p := ⟨w.heap.size + 1 + 1, 2, none⟩) (by show w.heap.size + 1 ≠ w.heap.size + 1 + 1; omega) (.int .i64 n)).far (p := ⟨w.heap.size + 1 + 1, 3, none⟩) (by show w.heap.size + 1 ≠ w.heap.size + 1 + 1; omega) (.int .i64 d), (by have q := (KO.set_ 2 (.int .i64 n)).set_ 3 (.int .i64 d); simp only [List.setIfInBounds_toArray, List.set_cons_zero, List.set_cons_succ] at q; exact q), (B.setCell (p := ⟨w.heap.size + 1 + 1, 2, none⟩) (by show w.heap.size ≤ w.heap.size + 1 + 1; omega) (.int .i64 n)).setCell (p := ⟨w.heap.size + 1 + 1, 3, none⟩) (by show w.heap.size ≤ w.heap.size + 1 + 1; omega) (.int .i64 d)⟩
  obtain ⟨qA_0, qA_1, qA_2, qA_3, qA_4, qA_5⟩ := cells6 KA
  obtain ⟨qR_0, qR_1, qR_2, qR_3, qR_4, qR_5⟩ := cells6 KR
  obtain ⟨qO_0, qO_1, qO_2, qO_3, qO_4, qO_5⟩ := cells6 KO
  clear KA KR KO B
  go_wp2_with (first | (show wpList _ _ _ _ _ (World.setCell (World.setCell u1 _ _) _ _); clear fz fz2; clear qA_0 qA_1 qA_2 qA_3 qA_4 qA_5 qR_0 qR_1 qR_2 qR_3 qR_4 qR_5 qO_0 qO_1 qO_2 qO_3 qO_4 qO_5; generalize World.setCell (World.setCell u1 ⟨w.heap.size + 1 + 1, 2, none⟩ (.int .i64 n)) ⟨w.heap.size + 1 + 1, 3, none⟩ (.int .i64 d) = y3s at HS3 ⊢; obtain ⟨KA, KR, KO, B⟩ := HS3.out; clear HS3; have fz := KO.frozen 4; have HS4 : Hid (Blk (World.setCell y3s ⟨w.heap.size + 1 + 1, 4, none⟩ (.int .i64 fr)) (w.heap.size) 112 #[.int .i64 ow, .int .i64 te, .int .i64 n, .int .i64 d, .int .i64 fr, .int .i64 en] ∧ Blk (World.setCell y3s ⟨w.heap.size + 1 + 1, 4, none⟩ (.int .i64 fr)) (w.heap.size + 1) 109 #[.int .i64 0, .int .i64 0, .int .i64 0, .int .i64 0, .int .i64 0, .int .i64 0] ∧ Blk (World.setCell y3s ⟨w.heap.size + 1 + 1, 4, none⟩ (.int .i64 fr)) (w.heap.size + 1 + 1) 109 #[.int .i64 ow, .int .i64 te, .int .i64 n, .int .i64 d, .int .i64 fr, .int .i64 0] ∧ Below w.heap.size w (World.setCell y3s ⟨w.heap.size + 1 + 1, 4, none⟩ (.int .i64 fr))) := ⟨KA.far (p := ⟨w.heap.size + 1 + 1, 4, none⟩) (by show w.heap.size ≠ w.heap.size + 1 + 1; omega) (.int .i64 fr), KR.far (p := ⟨w.heap.size + 1 + 1, 4, none⟩) (by show w.heap.size + 1 ≠ w.heap.size + 1 + 1; omega) (.int .i64 fr), (by have q := KO.set_ 4 (.int .i64 fr); simp only [List.setIfInBounds_toArray, List.set_cons_zero, List.set_cons_succ] at q; exact q), B.setCell (p := ⟨w.heap.size + 1 + 1, 4, none⟩) (by show w.heap.size ≤ w.heap.size + 1 + 1; omega) (.int .i64 fr)⟩; obtain ⟨qA_0, qA_1, qA_2, qA_3, qA_4, qA_5⟩ := cells6 KA; obtain ⟨qR_0, qR_1, qR_2, qR_3, qR_4, qR_5⟩ := cells6 KR; obtain ⟨qO_0, qO_1, qO_2, qO_3, qO_4, qO_5⟩ := cells6 KO; clear KA KR KO B) | (show wpList _ _ _ _ _ (World.setCell y3s _ _); clear fz; clear qA_0 qA_1 qA_2 qA_3 qA_4 qA_5 qR_0 qR_1 qR_2 qR_3 qR_4 qR_5 qO_0 qO_1 qO_2 qO_3 qO_4 qO_5; generalize World.setCell y3s ⟨w.heap.size + 1 + 1, 4, none⟩ (.int .i64 fr) = y4s at HS4 ⊢; obtain ⟨KA, KR, KO, B⟩ := HS4.out; clear HS4; have fz := KO.frozen 5; have HS5 : Hid (Blk (World.setCell y4s ⟨w.heap.size + 1 + 1, 5, none⟩ (.int .i64 en)) (w.heap.size) 112 #[.int .i64 ow, .int .i64 te, .int .i64 n, .int .i64 d, .int .i64 fr, .int .i64 en] ∧ Blk (World.setCell y4s ⟨w.heap.size + 1 + 1, 5, none⟩ (.int .i64 en)) (w.heap.size + 1) 109 #[.int .i64 0, .int .i64 0, .int .i64 0, .int .i64 0, .int .i64 0, .int .i64 0] ∧ Blk (World.setCell y4s ⟨w.heap.size + 1 + 1, 5, none⟩ (.int .i64 en)) (w.heap.size + 1 + 1) 109 #[.int .i64 ow, .int .i64 te, .int .i64 n, .int .i64 d, .int .i64 fr, .int .i64 en] ∧ Below w.heap.size w (World.setCell y4s ⟨w.heap.size + 1 + 1, 5, none⟩ (.int .i64 en))) := ⟨KA.far (p := ⟨w.heap.size + 1 + 1, 5, none⟩) (by show w.heap.size ≠ w.heap.size + 1 + 1; omega) (.int .i64 en), KR.far (p := ⟨w.heap.size + 1 + 1, 5, none⟩) (by show w.heap.size + 1 ≠ w.heap.size + 1 + 1; omega) (.int .i64 en), (by have q := KO.set_ 5 (.int .i64 en); simp only [List.setIfInBounds_toArray, List.set_cons_zero, List.set_cons_succ] at q; exact q), B.setCell (p := ⟨w.heap.size + 1 + 1, 5, none⟩) (by show w.heap.size ≤ w.heap.size + 1 + 1; omega) (.int .i64 en)⟩; obtain ⟨qA_0, qA_1, qA_2, qA_3, qA_4, qA_5⟩ := cells6 KA; obtain ⟨qR_0, qR_1, qR_2, qR_3, qR_4, qR_5⟩ := cells6 KR; obtain ⟨qO_0, qO_1, qO_2, qO_3, qO_4, qO_5⟩ := cells6 KO; clear KA KR KO B) | (show wpList _ _ _ _ _ (World.setCell y4s _ _); clear fz; clear qA_0 qA_1 qA_2 qA_3 qA_4 qA_5 qR_0 qR_1 qR_2 qR_3 qR_4 qR_5 qO_0 qO_1 qO_2 qO_3 qO_4 qO_5; generalize World.setCell y4s ⟨w.heap.size + 1 + 1, 5, none⟩ (.int .i64 en) = y5s at HS5 ⊢; obtain ⟨KA, KR, KO, B⟩ := HS5.out; clear HS5; have fr0 := KR.frozen 0; have fr1 := KR.frozen 1; have fr2 := KR.frozen 2; have fr3 := KR.frozen 3; have fr4 := KR.frozen 4; have fr5 := KR.frozen 5; have HF := Lib.hid (show Blk (y5s) (w.heap.size) 112 #[.int .i64 ow, .int .i64 te, .int .i64 n, .int .i64 d, .int .i64 fr, .int .i64 en] ∧ Blk (y5s) (w.heap.size + 1) 109 #[.int .i64 0, .int .i64 0, .int .i64 0, .int .i64 0, .int .i64 0, .int .i64 0] ∧ Blk (y5s) (w.heap.size + 1 + 1) 109 #[.int .i64 ow, .int .i64 te, .int .i64 n, .int .i64 d, .int .i64 fr, .int .i64 en] ∧ Below w.heap.size w (y5s) from ⟨KA, KR, KO, B⟩); obtain ⟨qA_0, qA_1, qA_2, qA_3, qA_4, qA_5⟩ := cells6 KA; obtain ⟨qR_0, qR_1, qR_2, qR_3, qR_4, qR_5⟩ := cells6 KR; obtain ⟨qO_0, qO_1, qO_2, qO_3, qO_4, qO_5⟩ := cells6 KO; clear KA KR KO B))
  clear fr0 fr1 fr2 fr3 fr4 fr5
  clear qA_0 qA_1 qA_2 qA_3 qA_4 qA_5 qR_0 qR_1 qR_2 qR_3 qR_4 qR_5 qO_0 qO_1 qO_2 qO_3 qO_4 qO_5
  obtain ⟨KA, KR, KO, B⟩ := HF.out
  clear HF
  change bodyPost _ _ _ _ _ (sets6 y5s (w.heap.size + 1) (.int .i64 ow) (.int .i64 te) (.int .i64 n) (.int .i64 d) (.int .i64 fr) (.int .i64 en))
  have KOLD := KR
  replace KR := sets6_blk (v0 := .int .i64 ow) (v1 := .int .i64 te) (v2 := .int .i64 n) (v3 := .int .i64 d) (v4 := .int .i64 fr) (v5 := .int .i64 en) KR
  replace B := sets6_below (b := w.heap.size + 1) (v0 := .int .i64 ow) (v1 := .int .i64 te) (v2 := .int .i64 n) (v3 := .int .i64 d) (v4 := .int .i64 fr) (v5 := .int .i64 en) B (by omega)
  clear KA
  clear KO
  clear KOLD
  generalize sets6 y5s (w.heap.size + 1) (.int .i64 ow) (.int .i64 te) (.int .i64 n) (.int .i64 d) (.int .i64 fr) (.int .i64 en) = uf at KR  B ⊢
  obtain ⟨qR_0, qR_1, qR_2, qR_3, qR_4, qR_5⟩ := cells6 KR
  refine bodyPost_ret (v := .agg #[.int .i64 ow, .int .i64 te, .int .i64 n, .int .i64 d, .int .i64 fr, .int .i64 en]) (by simp [results, Try.results73, go_sem, qR_0, qR_1, qR_2, qR_3, qR_4, qR_5]) rfl ⟨rfl, B⟩
def lsv (x : Lr) : Nat → Value
  | 0 => .int .i64 x.ow
  | 1 => .int .i64 x.te
  | 2 => .int .i64 x.n
  | 3 => .int .i64 x.d
  | 4 => .int .i64 x.fr
  | _ => .int .i64 x.en
/-- leases in a row of the call's own -/
def RowLs (w : World) (g : Nat) (n : Nat) (ls : List Lr) : Prop := w.rowIs g 109 (ls.length * 6) fun j => if j < n * 6 then lsv (ls.getD (j / 6) lr0) (j % 6) else .int .i64 0
theorem RowLs.is {w : World} {g : Nat} {ls : List Lr} (h : RowLs w g ls.length ls) : IsLs w (some ⟨g, 0, none⟩) ls := by
  refine .inr ⟨g, 0, rfl, fun i hi => ?_⟩
  rw [Nat.zero_add]
  have key : ∀ q, q < 6 → w.cell? ⟨g, i * 6 + q, none⟩ = some (lsv (ls.getD i lr0) q) := fun q hq => by
    have := World.rowIs.cell h (i := i * 6 + q) (by omega)
    rw [if_pos (by omega), show (i * 6 + q) / 6 = i from by omega, show (i * 6 + q) % 6 = q from by omega] at this
    exact this
  exact ⟨key 0 (by omega), key 1 (by omega), key 2 (by omega), key 3 (by omega), key 4 (by omega), key 5 (by omega)⟩
theorem RowLs.next {w w' : World} {g : Nat} {ls : List Lr} (h : RowLs w g ls.length ls) (hb : Below w.heap.size w w') : RowLs w' g ls.length ls :=
  World.rowIs.of_block h (hb.block g (World.rowIs.lt h))
theorem infoLs : (Try.prog.info? 109).map (fun i => (i.zero, i.size, i.bytes)) = some (some (.agg #[.int .i64 0, .int .i64 0, .int .i64 0, .int .i64 0, .int .i64 0, .int .i64 0]), 6, 48) := by kernel_rfl
theorem madeLs (w : World) (n : Nat) (t : TypeId) : (w.alloc (.cells (madeCells #[.int .i64 0, .int .i64 0, .int .i64 0, .int .i64 0, .int .i64 0, .int .i64 0] n) t)).rowIs w.heap.size t n (fun _ => .int .i64 0) := by
  have hs : (madeCells #[Value.int .i64 0, .int .i64 0, .int .i64 0, .int .i64 0, .int .i64 0, .int .i64 0] n).size = n := by unfold madeCells; simp
  refine ⟨_, heap_alloc_new w _, hs, fun i hi => ?_⟩
  have hm : i % 6 = 0 ∨ i % 6 = 1 ∨ i % 6 = 2 ∨ i % 6 = 3 ∨ i % 6 = 4 ∨ i % 6 = 5 := by omega
  unfold madeCells
  rw [Array.getElem?_map, Array.getElem?_range, if_pos hi]
  show some ((#[Value.int .i64 0, .int .i64 0, .int .i64 0, .int .i64 0, .int .i64 0, .int .i64 0] : Array Value)[i % 6]!) = _
  rcases hm with h | h | h | h | h | h <;> rw [h] <;> rfl
theorem run_makeLs (n : Nat) (hn : n ≤ 1048576) (w : World) : (Instr.makeSlice 64 (.int .i64 (n : Int)) (.int .i64 (n : Int))).run Try.prog w = .ok (.slice (some ⟨w.heap.size, 0, none⟩) n n) (w.alloc (.cells (madeCells #[.int .i64 0, .int .i64 0, .int .i64 0, .int .i64 0, .int .i64 0, .int .i64 0] (n * 6)) 109)) := by
  obtain ⟨i0, hi0, hz0, hz1, hz2⟩ := info_parts infoLs
  have := run_make (P := Try.prog) w 64 109 i0 _ Try.underlying64 hi0 hz0 .i64 .i64 (n : Int) (n : Int) (by omega) (by omega) (by rw [hz2]; omega) (by omega)
  simp only [Int.toNat_natCast, hz1] at this
  exact this
theorem rowLs_step {w : World} {g k : Nat} {ls : List Lr} (h : RowLs w g k ls) (hk : k < ls.length) : RowLs (World.setCell (World.setCell (World.setCell (World.setCell (World.setCell (World.setCell w ⟨g, k * 6, none⟩ (.int .i64 (ls.getD k lr0).ow)) ⟨g, k * 6 + 1, none⟩ (.int .i64 (ls.getD k lr0).te)) ⟨g, k * 6 + 2, none⟩ (.int .i64 (ls.getD k lr0).n)) ⟨g, k * 6 + 3, none⟩ (.int .i64 (ls.getD k lr0).d)) ⟨g, k * 6 + 4, none⟩ (.int .i64 (ls.getD k lr0).fr)) ⟨g, k * 6 + 5, none⟩ (.int .i64 (ls.getD k lr0).en)) g (k + 1) ls := by
  refine ((((((h.set (k * 6) _).set (k * 6 + 1) _).set (k * 6 + 2) _).set (k * 6 + 3) _).set (k * 6 + 4) _).set (k * 6 + 5) _).congr (fun j hj => ?_)
  try dsimp only
  by_cases hb : k * 6 ≤ j ∧ j < k * 6 + 6
  · rw [if_pos (show j < (k + 1) * 6 from by omega), show j / 6 = k from by omega]
    have hm : j = k * 6 ∨ j = k * 6 + 1 ∨ j = k * 6 + 2 ∨ j = k * 6 + 3 ∨ j = k * 6 + 4 ∨ j = k * 6 + 5 := by omega
    rcases hm with e | e | e | e | e | e
    · rw [if_neg (by omega), if_neg (by omega), if_neg (by omega), if_neg (by omega), if_neg (by omega), if_pos e, show j % 6 = 0 from by omega]; rfl
    · rw [if_neg (by omega), if_neg (by omega), if_neg (by omega), if_neg (by omega), if_pos e, show j % 6 = 1 from by omega]; rfl
    · rw [if_neg (by omega), if_neg (by omega), if_neg (by omega), if_pos e, show j % 6 = 2 from by omega]; rfl
    · rw [if_neg (by omega), if_neg (by omega), if_pos e, show j % 6 = 3 from by omega]; rfl
    · rw [if_neg (by omega), if_pos e, show j % 6 = 4 from by omega]; rfl
    · rw [if_pos e, show j % 6 = 5 from by omega]; rfl
  · rw [if_neg (by omega), if_neg (by omega), if_neg (by omega), if_neg (by omega), if_neg (by omega), if_neg (by omega)]
    by_cases hl : j < k * 6
    · rw [if_pos hl, if_pos (by omega)]
    · rw [if_neg hl, if_neg (by omega)]
/-- what toLeaseS leaves -/
def CopiedLs (w : World) (ls : List Lr) (e : Ending) (w' : World) : Prop := ∃ g : Nat, e = .returned (.slice (some ⟨g, 0, none⟩) ls.length ls.length) ∧ w.heap.size ≤ g ∧ RowLs w' g ls.length ls ∧ Below w.heap.size w w'
set_option maxRecDepth 100000 in
set_option maxHeartbeats 6000000 in
/-- laws.toLeaseS -/
theorem ltoLs (a : Option Addr) (cap : Nat) (ls : List Lr) (w : World) (h : IsLs w a ls) (hn : ls.length ≤ 1048576) :
    Calls Try.prog 40 #[.slice a ls.length cap] w (CopiedLs w ls) := by
  have hmk := run_makeLs ls.length hn
  have HC := Lib.hid h
  clear h
  go_enter Try.func40, Try.ntmps40
  go_wp2
  clear hmk
  go_loopw [4] (fun i wr => ∃ k : Nat, k ≤ ls.length ∧ i = .int .i64 k ∧ Hid (RowLs wr w.heap.size k ls ∧ Below w.heap.size w wr)) (fun i _ => ls.length - (intOf i).toNat)
  case atStart => exact ⟨0, Nat.zero_le _, rfl, ⟨(madeLs w (ls.length * 6) _).congr (fun i hi => by simp), by go_grown⟩⟩
  case round =>
    obtain ⟨k, hk, rfl, HS⟩ := hrel
    by_cases hlt : k < ls.length
    · rcases ls_below HC.out HS.out.2 with hd0 | ⟨g, o, rfl, hg⟩
      · rw [hd0] at hlt; exact absurd hlt (Nat.not_lt_zero _)
      obtain ⟨c0, c1, c2, c3, c4, c5⟩ := hg k hlt
      have HST := Lib.hid (fun (W : World) (hW : RowLs W w.heap.size k ls) => rowLs_step hW hlt)
      have hrow := HS.out.1
      have key : ∀ q, q < 6 → wr.cell? ⟨w.heap.size, k * 6 + q, none⟩ = some (.int .i64 0) := fun q hq => by
        have := World.rowIs.cell hrow (i := k * 6 + q) (by omega)
        rw [if_neg (by omega)] at this
        exact this
      have d0 := key 0 (by omega)
      have d1 := key 1 (by omega)
      have d2 := key 2 (by omega)
      have d3 := key 3 (by omega)
      have d4 := key 4 (by omega)
      have d5 := key 5 (by omega)
      have hf := World.rowIs.frozen hrow
      have hW := World.rowIs.lt hrow
      clear key hrow hg
      rw [Nat.add_zero] at d0
      have hk0 : (0 : Int) ≤ (k : Int) := by omega
      have hk1 : (k : Int) < (ls.length : Int) := by omega
      generalize ls.getD k lr0 = x at c0 c1 c2 c3 c4 c5 HST
      have CC := Lib.hid (ltoLr x wr)
      have HF := Lib.hid hf
      clear hf
      go_wp2_with fail
      refine CC.out.mono ?_
      rintro e w1 ⟨rfl, C⟩
      have HN := Lib.hid (HST.out w1 (World.rowIs.of_block HS.out.1 (C.block _ hW)))
      have HB := Lib.hid (bel_tr HS.out.2 C)
      replace d0 := (C.cell (p := ⟨w.heap.size, k * 6, none⟩) hW).trans d0
      have f0 := (C.frozen (p := ⟨w.heap.size, k * 6, none⟩) hW).trans (HF.out _)
      replace d1 := (C.cell (p := ⟨w.heap.size, k * 6 + 1, none⟩) hW).trans d1
      have f1 := (C.frozen (p := ⟨w.heap.size, k * 6 + 1, none⟩) hW).trans (HF.out _)
      replace d2 := (C.cell (p := ⟨w.heap.size, k * 6 + 2, none⟩) hW).trans d2
      have f2 := (C.frozen (p := ⟨w.heap.size, k * 6 + 2, none⟩) hW).trans (HF.out _)
      replace d3 := (C.cell (p := ⟨w.heap.size, k * 6 + 3, none⟩) hW).trans d3
      have f3 := (C.frozen (p := ⟨w.heap.size, k * 6 + 3, none⟩) hW).trans (HF.out _)
      replace d4 := (C.cell (p := ⟨w.heap.size, k * 6 + 4, none⟩) hW).trans d4
      have f4 := (C.frozen (p := ⟨w.heap.size, k * 6 + 4, none⟩) hW).trans (HF.out _)
      replace d5 := (C.cell (p := ⟨w.heap.size, k * 6 + 5, none⟩) hW).trans d5
      have f5 := (C.frozen (p := ⟨w.heap.size, k * 6 + 5, none⟩) hW).trans (HF.out _)
      clear C c0 c1 c2 c3 c4 c5 HST CC HS
      go_wp2_with fail
      go_roundw
      case rel => exact ⟨k + 1, by omega, by go_num, HN.out, (((((HB.out.setCell (p := ⟨w.heap.size, k * 6, none⟩) (Nat.le_refl _) _).setCell (p := ⟨w.heap.size, k * 6 + 1, none⟩) (Nat.le_refl _) _).setCell (p := ⟨w.heap.size, k * 6 + 2, none⟩) (Nat.le_refl _) _).setCell (p := ⟨w.heap.size, k * 6 + 3, none⟩) (Nat.le_refl _) _).setCell (p := ⟨w.heap.size, k * 6 + 4, none⟩) (Nat.le_refl _) _).setCell (p := ⟨w.heap.size, k * 6 + 5, none⟩) (Nat.le_refl _) _⟩
      case measure => simp [intOf]; omega
    · obtain rfl : k = ls.length := by omega
      go_wp2_with fail
      go_ret
      exact ⟨_, rfl, Nat.le_refl _, HS.out.1, HS.out.2⟩
set_option maxRecDepth 100000 in
set_option maxHeartbeats 6000000 in
/-- laws.eqLease -/
theorem leqLr (x : Lr) (w : World) :
    Calls Try.prog 80 #[.agg #[.int .i64 x.ow, .int .i64 x.te, .int .i64 x.n, .int .i64 x.d, .int .i64 x.fr, .int .i64 x.en], .agg #[.int .i64 x.ow, .int .i64 x.te, .int .i64 x.n, .int .i64 x.d, .int .i64 x.fr, .int .i64 x.en]] w fun e w' => e = .returned (.bool true) ∧ Below w.heap.size w w' := by
  obtain ⟨ow, te, n, d, fr, en⟩ := x
  dsimp only
  have K1 := (Blk.new w 109 #[.int .i64 ow, .int .i64 te, .int .i64 n, .int .i64 d, .int .i64 fr, .int .i64 en]).alloc (.cells #[.int .i64 ow, .int .i64 te, .int .i64 n, .int .i64 d, .int .i64 fr, .int .i64 en] 109)
  have K2 := Blk.new (w.alloc (.cells #[.int .i64 ow, .int .i64 te, .int .i64 n, .int .i64 d, .int .i64 fr, .int .i64 en] 109)) 109 #[.int .i64 ow, .int .i64 te, .int .i64 n, .int .i64 d, .int .i64 fr, .int .i64 en]
  rw [World.size_alloc] at K2
  have B : Below w.heap.size w ((w.alloc (.cells #[.int .i64 ow, .int .i64 te, .int .i64 n, .int .i64 d, .int .i64 fr, .int .i64 en] 109)).alloc (.cells #[.int .i64 ow, .int .i64 te, .int .i64 n, .int .i64 d, .int .i64 fr, .int .i64 en] 109)) := by go_grown
  obtain ⟨q0, q1, q2, q3, q4, q5⟩ := cells6 K1
  obtain ⟨r0, r1, r2, r3, r4, r5⟩ := cells6 K2
  have b0 : (ow != ow) = false := by simp
  have b1 : (te != te) = false := by simp
  have b2 : (fr != fr) = false := by simp
  have b3 : (en != en) = false := by simp
  go_enter Try.func80, Try.ntmps80
  go_wp2_with fail
  refine (leqFrac n d _).mono ?_
  rintro e u1 ⟨rfl, C⟩
  clear q0 q1 q2 q3 q4 q5 r0 r1 r2 r3 r4 r5
  replace B := bel_tr B C
  replace K1 := K1.next C
  replace K2 := K2.next C
  clear C
  obtain ⟨q0, q1, q2, q3, q4, q5⟩ := cells6 K1
  obtain ⟨r0, r1, r2, r3, r4, r5⟩ := cells6 K2
  go_wp2_with fail
  go_ret
  exact ⟨rfl, B⟩
set_option maxRecDepth 100000 in
set_option maxHeartbeats 6000000 in
/-- laws.eqLeaseS of two readings of the same leases -/
theorem leqLs (a b : Option Addr) (ca cb : Nat) (ls : List Lr) (w : World) (ha : IsLs w a ls) (hb : IsLs w b ls) (hn : ls.length ≤ 1048576) :
    Calls Try.prog 43 #[.slice a ls.length ca, .slice b ls.length cb] w fun e w' => e = .returned (.bool true) ∧ Below w.heap.size w w' := by
  have HA := Lib.hid ha
  have HB := Lib.hid hb
  clear ha hb
  have B := Below.refl w.heap.size w
  go_enter Try.func43, Try.ntmps43
  go_wp2_with fail
  go_loopw [5] (fun i wr => ∃ k : Nat, k ≤ ls.length ∧ i = .int .i64 k ∧ Below w.heap.size w wr) (fun i _ => ls.length - (intOf i).toNat)
  case atStart => exact ⟨0, Nat.zero_le _, rfl, B⟩
  case round =>
    clear B
    obtain ⟨k, hk, rfl, B⟩ := hrel
    by_cases hlt : k < ls.length
    · rcases ls_below HA.out B with hd0 | ⟨g1, o1, rfl, hg1⟩
      · rw [hd0] at hlt; exact absurd hlt (Nat.not_lt_zero _)
      rcases ls_below HB.out B with hd0 | ⟨g2, o2, rfl, hg2⟩
      · rw [hd0] at hlt; exact absurd hlt (Nat.not_lt_zero _)
      obtain ⟨c0, c1, c2, c3, c4, c5⟩ := hg1 k hlt
      obtain ⟨e0, e1, e2, e3, e4, e5⟩ := hg2 k hlt
      clear hg1 hg2
      generalize ls.getD k lr0 = x at c0 c1 c2 c3 c4 c5 e0 e1 e2 e3 e4 e5
      have lt1 := World.block_lt_of_cell? wr _ c0
      have lt2 := World.block_lt_of_cell? wr _ e0
      have k0 : (0 : Int) ≤ (k : Int) := by omega
      have k1 : (k : Int) < (ls.length : Int) := by omega
      go_wp2_with fail
      have HMK1 := Lib.hid (fun (W : World) (hW : Below wr.heap.size wr W) => (⟨⟨(hW.cell (p := ⟨g1, o1 + k * 6, none⟩) (lt1)).trans c0, (hW.cell (p := ⟨g1, o1 + k * 6 + 1, none⟩) (lt1)).trans c1, (hW.cell (p := ⟨g1, o1 + k * 6 + 2, none⟩) (lt1)).trans c2, (hW.cell (p := ⟨g1, o1 + k * 6 + 3, none⟩) (lt1)).trans c3, (hW.cell (p := ⟨g1, o1 + k * 6 + 4, none⟩) (lt1)).trans c4, (hW.cell (p := ⟨g1, o1 + k * 6 + 5, none⟩) (lt1)).trans c5, (hW.cell (p := ⟨g2, o2 + k * 6, none⟩) (lt2)).trans e0, (hW.cell (p := ⟨g2, o2 + k * 6 + 1, none⟩) (lt2)).trans e1, (hW.cell (p := ⟨g2, o2 + k * 6 + 2, none⟩) (lt2)).trans e2, (hW.cell (p := ⟨g2, o2 + k * 6 + 3, none⟩) (lt2)).trans e3, (hW.cell (p := ⟨g2, o2 + k * 6 + 4, none⟩) (lt2)).trans e4, (hW.cell (p := ⟨g2, o2 + k * 6 + 5, none⟩) (lt2)).trans e5⟩, hW⟩ : (W.cell? ⟨g1, o1 + k * 6, none⟩ = some (.int .i64 x.ow) ∧ W.cell? ⟨g1, o1 + k * 6 + 1, none⟩ = some (.int .i64 x.te) ∧ W.cell? ⟨g1, o1 + k * 6 + 2, none⟩ = some (.int .i64 x.n) ∧ W.cell? ⟨g1, o1 + k * 6 + 3, none⟩ = some (.int .i64 x.d) ∧ W.cell? ⟨g1, o1 + k * 6 + 4, none⟩ = some (.int .i64 x.fr) ∧ W.cell? ⟨g1, o1 + k * 6 + 5, none⟩ = some (.int .i64 x.en) ∧ W.cell? ⟨g2, o2 + k * 6, none⟩ = some (.int .i64 x.ow) ∧ W.cell? ⟨g2, o2 + k * 6 + 1, none⟩ = some (.int .i64 x.te) ∧ W.cell? ⟨g2, o2 + k * 6 + 2, none⟩ = some (.int .i64 x.n) ∧ W.cell? ⟨g2, o2 + k * 6 + 3, none⟩ = some (.int .i64 x.d) ∧ W.cell? ⟨g2, o2 + k * 6 + 4, none⟩ = some (.int .i64 x.fr) ∧ W.cell? ⟨g2, o2 + k * 6 + 5, none⟩ = some (.int .i64 x.en)) ∧ Below wr.heap.size wr W))
      refine wp_region_held_drew (S := (fun w' => (w'.cell? ⟨g1, o1 + k * 6, none⟩ = some (.int .i64 x.ow) ∧ w'.cell? ⟨g1, o1 + k * 6 + 1, none⟩ = some (.int .i64 x.te) ∧ w'.cell? ⟨g1, o1 + k * 6 + 2, none⟩ = some (.int .i64 x.n) ∧ w'.cell? ⟨g1, o1 + k * 6 + 3, none⟩ = some (.int .i64 x.d) ∧ w'.cell? ⟨g1, o1 + k * 6 + 4, none⟩ = some (.int .i64 x.fr) ∧ w'.cell? ⟨g1, o1 + k * 6 + 5, none⟩ = some (.int .i64 x.en) ∧ w'.cell? ⟨g2, o2 + k * 6, none⟩ = some (.int .i64 x.ow) ∧ w'.cell? ⟨g2, o2 + k * 6 + 1, none⟩ = some (.int .i64 x.te) ∧ w'.cell? ⟨g2, o2 + k * 6 + 2, none⟩ = some (.int .i64 x.n) ∧ w'.cell? ⟨g2, o2 + k * 6 + 3, none⟩ = some (.int .i64 x.d) ∧ w'.cell? ⟨g2, o2 + k * 6 + 4, none⟩ = some (.int .i64 x.fr) ∧ w'.cell? ⟨g2, o2 + k * 6 + 5, none⟩ = some (.int .i64 x.en)) ∧ Below wr.heap.size wr w')) (by kernel_rfl) ?_ (fun hHeld => ?_)
      · exact ⟨⟨c0, c1, c2, c3, c4, c5, e0, e1, e2, e3, e4, e5⟩, (Below.refl _ _).drew⟩
      refine wpAnyH_take (i := 0) (oi := ?ooa2_) (v := ?vva2_) ?hia2_ (by kernel_rfl) ?h3a2_ ?h4a2_ ?h5a2_ ?h6a2_ (by assumption) ?h8a2_
      case hia2_ => (simp only [List.getElem?_toArray, List.getElem?_cons_succ, List.getElem?_cons_zero]; rfl)
      case h3a2_ => kernel_rfl
      case h4a2_ => kernel_rfl
      case h6a2_ => (refine Or.inl ⟨by rfl, ?_⟩; intro w hSw; (try dsimp only at hSw); (go_simp <;> with_reducible rfl))
      case h5a2_ => exact fun _ _ _ h => h
      try simp only [Act.put, List.setIfInBounds_toArray, List.set_cons_zero, List.set_cons_succ]
      refine wpAnyH_take (i := 1) (oi := ?ooa3_) (v := ?vva3_) ?hia3_ (by kernel_rfl) ?h3a3_ ?h4a3_ ?h5a3_ ?h6a3_ (by assumption) ?h8a3_
      case hia3_ => (simp only [List.getElem?_toArray, List.getElem?_cons_succ, List.getElem?_cons_zero]; rfl)
      case h3a3_ => kernel_rfl
      case h4a3_ => kernel_rfl
      case h6a3_ => (refine Or.inl ⟨by rfl, ?_⟩; intro w hSw; (try dsimp only at hSw); (go_simp <;> with_reducible rfl))
      case h5a3_ => exact fun _ _ _ h => h
      try simp only [Act.put, List.setIfInBounds_toArray, List.set_cons_zero, List.set_cons_succ]
      refine wpAnyH_take (i := 2) (oi := ?ooa4_) (v := ?vva4_) ?hia4_ (by kernel_rfl) ?h3a4_ ?h4a4_ ?h5a4_ ?h6a4_ (by assumption) ?h8a4_
      case hia4_ => (simp only [List.getElem?_toArray, List.getElem?_cons_succ, List.getElem?_cons_zero]; rfl)
      case h3a4_ => kernel_rfl
      case h4a4_ => kernel_rfl
      case h6a4_ => (refine Or.inl ⟨by rfl, ?_⟩; intro w hSw; (try dsimp only at hSw); (go_simp <;> with_reducible rfl))
      case h5a4_ => exact fun _ _ _ h => h
      try simp only [Act.put, List.setIfInBounds_toArray, List.set_cons_zero, List.set_cons_succ]
      refine wpAnyH_take (i := 3) (oi := ?ooa5_) (v := ?vva5_) ?hia5_ (by kernel_rfl) ?h3a5_ ?h4a5_ ?h5a5_ ?h6a5_ (by assumption) ?h8a5_
      case hia5_ => (simp only [List.getElem?_toArray, List.getElem?_cons_succ, List.getElem?_cons_zero]; rfl)
      case h3a5_ => kernel_rfl
      case h4a5_ => kernel_rfl
      case h6a5_ => (refine Or.inl ⟨by rfl, ?_⟩; intro w hSw; (try dsimp only at hSw); (go_simp <;> with_reducible rfl))
      case h5a5_ => exact fun _ _ _ h => h
      try simp only [Act.put, List.setIfInBounds_toArray, List.set_cons_zero, List.set_cons_succ]
      refine wpAnyH_take (i := 4) (oi := ?ooa6_) (v := ?vva6_) ?hia6_ (by kernel_rfl) ?h3a6_ ?h4a6_ ?h5a6_ ?h6a6_ (by assumption) ?h8a6_
      case hia6_ => (simp only [List.getElem?_toArray, List.getElem?_cons_succ, List.getElem?_cons_zero]; rfl)
      case h3a6_ => kernel_rfl
      case h4a6_ => kernel_rfl
      case h6a6_ => (refine Or.inl ⟨by rfl, ?_⟩; intro w hSw; (try dsimp only at hSw); (go_simp <;> with_reducible rfl))
      case h5a6_ => exact fun _ _ _ h => h
      try simp only [Act.put, List.setIfInBounds_toArray, List.set_cons_zero, List.set_cons_succ]
      refine wpAnyH_take (i := 5) (oi := ?ooa7_) (v := ?vva7_) ?hia7_ (by kernel_rfl) ?h3a7_ ?h4a7_ ?h5a7_ ?h6a7_ (by assumption) ?h8a7_
      case hia7_ => (simp only [List.getElem?_toArray, List.getElem?_cons_succ, List.getElem?_cons_zero]; rfl)
      case h3a7_ => kernel_rfl
      case h4a7_ => kernel_rfl
      case h6a7_ => (refine Or.inl ⟨by rfl, ?_⟩; intro w hSw; (try dsimp only at hSw); (go_simp <;> with_reducible rfl))
      case h5a7_ => exact fun _ _ _ h => h
      try simp only [Act.put, List.setIfInBounds_toArray, List.set_cons_zero, List.set_cons_succ]
      refine wpAnyH_take (i := 6) (oi := ?ooa8_) (v := ?vva8_) ?hia8_ (by kernel_rfl) ?h3a8_ ?h4a8_ ?h5a8_ ?h6a8_ (by assumption) ?h8a8_
      case hia8_ => (simp only [List.getElem?_toArray, List.getElem?_cons_succ, List.getElem?_cons_zero]; rfl)
      case h3a8_ => kernel_rfl
      case h4a8_ => kernel_rfl
      case h6a8_ => (refine Or.inl ⟨by rfl, ?_⟩; intro w hSw; (try dsimp only at hSw); (go_simp <;> with_reducible rfl))
      case h5a8_ => exact fun _ _ _ h => h
      try simp only [Act.put, List.setIfInBounds_toArray, List.set_cons_zero, List.set_cons_succ]
      refine wpAnyH_take (i := 7) (oi := ?ooa9_) (v := ?vva9_) ?hia9_ (by kernel_rfl) ?h3a9_ ?h4a9_ ?h5a9_ ?h6a9_ (by assumption) ?h8a9_
      case hia9_ => (simp only [List.getElem?_toArray, List.getElem?_cons_succ, List.getElem?_cons_zero]; rfl)
      case h3a9_ => kernel_rfl
      case h4a9_ => kernel_rfl
      case h6a9_ => (refine Or.inl ⟨by rfl, ?_⟩; intro w hSw; (try dsimp only at hSw); (go_simp <;> with_reducible rfl))
      case h5a9_ => exact fun _ _ _ h => h
      try simp only [Act.put, List.setIfInBounds_toArray, List.set_cons_zero, List.set_cons_succ]
      refine wpAnyH_ready (rs := [8]) (by kernel_rfl) (by simp) (AllReadyH.cons (o := ?ooa10_q0) ?hia10_q0 (fun K hK => ?hka10_q0) AllReadyH.nil)
      case hia10_q0 => (simp only [List.getElem?_toArray, List.getElem?_cons_succ, List.getElem?_cons_zero]; rfl)
      case hka10_q0 =>
        (rw [if_pos (by rfl)]; go_simp; refine (leqLr x _).mono ?_; rintro e q_ ⟨rfl, hb⟩; go_wp2_with fail; refine hK.out _ _ (HMK1.out _ (bel_tr hHeld.2 hb)) (fun hHeld => ?_); clear hK K)
        try simp only [Act.put, List.setIfInBounds_toArray, List.set_cons_zero, List.set_cons_succ]
        refine wpAnyH_take (i := 9) (oi := ?ooa11_) (v := ?vva11_) ?hia11_ (by kernel_rfl) ?h3a11_ ?h4a11_ ?h5a11_ ?h6a11_ (by assumption) ?h8a11_
        case hia11_ => (simp only [List.getElem?_toArray, List.getElem?_cons_succ, List.getElem?_cons_zero]; rfl)
        case h3a11_ => kernel_rfl
        case h4a11_ => kernel_rfl
        case h6a11_ => (refine Or.inl ⟨by rfl, ?_⟩; intro w hSw; (try dsimp only at hSw); (go_simp <;> with_reducible rfl))
        case h5a11_ => exact fun _ _ _ h => h
        try simp only [Act.put, List.setIfInBounds_toArray, List.set_cons_zero, List.set_cons_succ]
        refine wpAnyH_done (by kernel_rfl) ?_ _
        clear HMK1
        have B2 := bel_tr B hHeld.2
        clear hHeld
        go_wp2_with fail
        go_roundw
        case rel => exact ⟨k + 1, by omega, by go_num, B2⟩
        case measure => simp [intOf]; omega
    · go_wp2_with fail
      go_ret
      exact ⟨rfl, B⟩
end Go.Proofs.Ytgmmdpdlekpmfac
namespace Go.Proofs.Ytgmmdpdlekpmfac
open Go.ChangeShapes Go.WideShapes Go.RowKit Go.Deep
set_option linter.unusedSimpArgs false
set_option linter.unusedVariables false

theorem trod_intD {H : Type} {enc : TypeId × Value → H} {w : World} {base : Nat} {spare : Nat → Bool} {held : Bool} {fuel : Nat} {c : Value} {x : DataW H × List MemPlace} (h : DataW.trod enc Try.prog w base spare held fuel 3 [c] = some x) : ∃ z, c = .int .i64 z := by
  obtain ⟨z, e, _, _⟩ := DataW.trod_int Try.underlying3 h
  injection e with e
  exact ⟨z, e⟩
set_option maxRecDepth 100000 in
theorem open_lease {H : Type} {enc : TypeId × Value → H} {w : World} {base : Nat} {spare : Nat → Bool} {held : Bool} {fuel : Nat} {cs : List Value} {x : DataW H × List MemPlace} (h : DataW.trod enc Try.prog w base spare held fuel 112 cs = some x) : ∃ y : Lr, cs = [.int .i64 y.ow, .int .i64 y.te, .int .i64 y.n, .int .i64 y.d, .int .i64 y.fr, .int .i64 y.en] := by
  obtain ⟨xs, n, _, _, hcl, hxl, hfs⟩ := DataW.trod_struct Try.underlying112 h
  have hC : Try.prog.cellsOf 112 = 6 := by kernel_rfl
  have hcl := hcl.trans hC
  have hxl : xs.length = 5 := hxl
  match xs, hxl, cs, hcl with
  | [y0, y1, y2, y3, y4], _, [c0, c1, c2, c3, c4, c5], _ =>
  have s1 : Try.prog.cellsOf 3 = 1 := by kernel_rfl
  have s2 : Try.prog.cellsOf 23 = 2 := by kernel_rfl
  have g0 : DataW.trod enc Try.prog w base spare held n 3 (([c0, c1, c2, c3, c4, c5].drop 0).take (Try.prog.cellsOf 3)) = some y0 := hfs 0 _ rfl
  rw [s1] at g0
  change DataW.trod enc Try.prog w base spare held n 3 [c0] = some y0 at g0
  have g1 : DataW.trod enc Try.prog w base spare held n 3 (([c0, c1, c2, c3, c4, c5].drop 1).take (Try.prog.cellsOf 3)) = some y1 := hfs 1 _ rfl
  rw [s1] at g1
  change DataW.trod enc Try.prog w base spare held n 3 [c1] = some y1 at g1
  have g2 : DataW.trod enc Try.prog w base spare held n 23 (([c0, c1, c2, c3, c4, c5].drop 2).take (Try.prog.cellsOf 23)) = some y2 := hfs 2 _ rfl
  rw [s2] at g2
  change DataW.trod enc Try.prog w base spare held n 23 [c2, c3] = some y2 at g2
  have g3 : DataW.trod enc Try.prog w base spare held n 3 (([c0, c1, c2, c3, c4, c5].drop 4).take (Try.prog.cellsOf 3)) = some y3 := hfs 3 _ rfl
  rw [s1] at g3
  change DataW.trod enc Try.prog w base spare held n 3 [c4] = some y3 at g3
  have g4 : DataW.trod enc Try.prog w base spare held n 3 (([c0, c1, c2, c3, c4, c5].drop 5).take (Try.prog.cellsOf 3)) = some y4 := hfs 4 _ rfl
  rw [s1] at g4
  change DataW.trod enc Try.prog w base spare held n 3 [c5] = some y4 at g4
  obtain ⟨a, e0⟩ := trod_intD g0
  obtain ⟨b, e1⟩ := trod_intD g1
  obtain ⟨m, d, e2⟩ := open_frac g2
  obtain ⟨f, e3⟩ := trod_intD g3
  obtain ⟨g, e4⟩ := trod_intD g4
  injection e2 with e2 e5
  injection e5 with e5
  subst e0 e1 e2 e3 e4 e5
  exact ⟨⟨a, b, m, d, f, g⟩, rfl⟩
/-- leases that came in -/
def LrIn (w : World) (a : Option Addr) (len cap : Nat) (ls : List Lr) : Prop := ls.length = len ∧ IsLs w a ls ∧ len ≤ cap ∧ cap ≤ maxLen
set_option maxRecDepth 100000 in
theorem open_lrs {H : Type} {enc : TypeId × Value → H} {w : World} {base : Nat} {spare : Nat → Bool} {held : Bool} {fuel : Nat} {a : Option Addr} {len cap : Nat} {x : DataW H × List MemPlace} (h : DataW.trod enc Try.prog w base spare held fuel 58 [.slice a len cap] = some x) : ∃ ls, LrIn w a len cap ls := by
  rcases open_slice Try.underlying58 h with ⟨hcs, _⟩ | ⟨ad, l, c, m, n', D, Pl, hcs, hb, hl, hm, hmm, hx, hi⟩
  · simp at hcs
    obtain ⟨rfl, rfl, rfl⟩ := hcs
    exact ⟨[], rfl, .inl rfl, Nat.le_refl _, Nat.zero_le _⟩
  · simp at hcs
    obtain ⟨rfl, rfl, rfl⟩ := hcs
    have hc : Try.prog.cellsOf 112 = 6 := by kernel_rfl
    have hmn : len ≤ m := by rw [hmm]; split <;> omega
    have each : ∀ i, i < len → ∃ y : Lr, w.cell? (ad.add (i * 6)) = some (.int .i64 y.ow) ∧ w.cell? (ad.add (i * 6 + 1)) = some (.int .i64 y.te) ∧ w.cell? (ad.add (i * 6 + 2)) = some (.int .i64 y.n) ∧ w.cell? (ad.add (i * 6 + 3)) = some (.int .i64 y.d) ∧ w.cell? (ad.add (i * 6 + 4)) = some (.int .i64 y.fr) ∧ w.cell? (ad.add (i * 6 + 5)) = some (.int .i64 y.en) := fun i hin => by
      obtain ⟨cs', h1, h2⟩ := hi i (by omega)
      obtain ⟨y, rfl⟩ := open_lease h2
      rw [hc] at h1
      obtain ⟨_, _, hat⟩ := World.cells?_some h1
      have a0 := hat 0 (by omega)
      have a1 := hat 1 (by omega)
      have a2 := hat 2 (by omega)
      have a3 := hat 3 (by omega)
      have a4 := hat 4 (by omega)
      have a5 := hat 5 (by omega)
      rw [add_add] at a0 a1 a2 a3 a4 a5
      exact ⟨y, a0, a1, a2, a3, a4, a5⟩
    obtain ⟨f, hf⟩ : ∃ f : Nat → Lr, ∀ i, i < len → w.cell? (ad.add (i * 6)) = some (.int .i64 (f i).ow) ∧ w.cell? (ad.add (i * 6 + 1)) = some (.int .i64 (f i).te) ∧ w.cell? (ad.add (i * 6 + 2)) = some (.int .i64 (f i).n) ∧ w.cell? (ad.add (i * 6 + 3)) = some (.int .i64 (f i).d) ∧ w.cell? (ad.add (i * 6 + 4)) = some (.int .i64 (f i).fr) ∧ w.cell? (ad.add (i * 6 + 5)) = some (.int .i64 (f i).en) :=
      ⟨fun i => if hh : i < len then Classical.choose (each i hh) else lr0, fun i hh => by simp only [dif_pos hh]; exact Classical.choose_spec (each i hh)⟩
    refine ⟨(List.range len).map f, by simp, ?_, hl, hm⟩
    by_cases h0 : len = 0
    · subst h0; exact .inl rfl
    · obtain ⟨b, off, spot⟩ := ad
      have hsp := (hf 0 (by omega)).1
      have hspot : spot = none := by simpa [Addr.add] using World.cell?_spot hsp
      subst hspot
      refine .inr ⟨b, off, rfl, fun i hin => ?_⟩
      have hin' : i < len := by simpa using hin
      have e : ((List.range len).map f).getD i lr0 = f i := by
        rw [List.getD_eq_getElem?_getD, List.getElem?_map, List.getElem?_range hin']; rfl
      have ao : ∀ j, (⟨b, off, none⟩ : Addr).add j = ⟨b, off + j, none⟩ := fun j => by
        unfold Addr.add
        by_cases hj : j = 0
        · subst hj; simp
        · simp [hj]
      obtain ⟨q0, q1, q2, q3, q4, q5⟩ := hf i hin'
      rw [ao] at q0 q1 q2 q3 q4 q5
      rw [e]
      exact ⟨q0, by rw [Nat.add_assoc]; exact q1, by rw [Nat.add_assoc]; exact q2, by rw [Nat.add_assoc]; exact q3, by rw [Nat.add_assoc]; exact q4, by rw [Nat.add_assoc]; exact q5⟩
end Go.Proofs.Ytgmmdpdlekpmfac
