/- Rows of the call's own that begin with numbers; numbers that rise from any one on. No condition. -/
import Derived.Test.YthagafkjlecagabGrB
namespace Go.Proofs.Ythagafkjlecagab
open Go.RowKit
set_option linter.unusedSimpArgs false
set_option linter.unusedVariables false
/-- s, s + 1 .. -/
def mkS (s : Int) (n : Nat) : List Int := (List.range n).map fun (i : Nat) => s + (i : Int)
theorem mkS_len (s : Int) (n : Nat) : (mkS s n).length = n := by unfold mkS; simp
theorem mkS_get (s : Int) (n : Nat) {k : Nat} (h : k < n) : (mkS s n).getD k 0 = s + (k : Int) := by
  unfold mkS
  rw [List.getD_eq_getElem?_getD, List.getElem?_map, List.getElem?_range h]; rfl
/-- the first j numbers written anew -/
def mkTo (s : Int) (zs : List Int) (j : Nat) : List Int := (List.range zs.length).map fun (i : Nat) => if i < j then s + (i : Int) else zs.getD i 0
theorem mkTo_len (s : Int) (zs : List Int) (j : Nat) : (mkTo s zs j).length = zs.length := by unfold mkTo; simp
theorem mkTo_get (s : Int) (zs : List Int) (j : Nat) {i : Nat} (h : i < zs.length) : (mkTo s zs j).getD i 0 = if i < j then s + (i : Int) else zs.getD i 0 := by
  unfold mkTo
  rw [List.getD_eq_getElem?_getD, List.getElem?_map, List.getElem?_range h]; rfl
theorem mk_ext {a b : List Int} (hl : a.length = b.length) (h : ∀ i, i < a.length → a.getD i 0 = b.getD i 0) : a = b := by
  apply List.ext_getElem hl
  intro i h1 h2
  have := h i h1
  rw [List.getD_eq_getElem?_getD, List.getElem?_eq_getElem h1, List.getD_eq_getElem?_getD, List.getElem?_eq_getElem h2] at this
  exact this
theorem mkTo_zero (s : Int) (zs : List Int) : mkTo s zs 0 = zs := mk_ext (mkTo_len s zs 0) (fun i hi => by rw [mkTo_len] at hi; rw [mkTo_get s zs 0 hi, if_neg (Nat.not_lt_zero _)])
theorem mkTo_set (s : Int) {zs : List Int} {j : Nat} (h : j < zs.length) : (mkTo s zs j).set j (s + (j : Int)) = mkTo s zs (j + 1) := by
  refine mk_ext (by rw [List.length_set, mkTo_len, mkTo_len]) (fun i hi => ?_)
  rw [List.length_set, mkTo_len] at hi
  rw [getD_setF (by rw [mkTo_len]; exact h), mkTo_get s zs j hi, mkTo_get s zs (j + 1) hi]
  by_cases e : i = j
  · subst e; rw [if_pos rfl, if_pos (by omega)]
  · rw [if_neg e]
    by_cases c : i < j
    · rw [if_pos c, if_pos (by omega)]
    · rw [if_neg c, if_neg (by omega)]
theorem mkTo_end (s : Int) (zs : List Int) : mkTo s zs zs.length = mkS s zs.length := by
  refine mk_ext (by rw [mkTo_len, mkS_len]) (fun i hi => ?_)
  rw [mkTo_len] at hi
  rw [mkTo_get s zs _ hi, if_pos hi, mkS_get s _ hi]
/-- a row of the call's own that begins with numbers: nil, or a block -/
def RowF (w : World) (base : Nat) (t : TypeId) (v : Value) (n : Nat) (zs : List Int) : Prop := (v = .slice none 0 0 ∧ n = 0) ∨ ∃ g cap, v = .slice (some ⟨g, 0, none⟩) n cap ∧ base ≤ g ∧ Flat w g t zs ∧ n ≤ cap
theorem RowF.next {w w' : World} {base n : Nat} {t : TypeId} {v : Value} {zs : List Int} (h : RowF w base t v n zs) (hb : Below w.heap.size w w') : RowF w' base t v n zs := by
  rcases h with h | ⟨g, cap, hv, hg, F, hc⟩
  · exact .inl h
  · exact .inr ⟨g, cap, hv, hg, F.next hb, hc⟩
theorem RowF.base {w : World} {a b n : Nat} {t : TypeId} {v : Value} {zs : List Int} (h : RowF w b t v n zs) (hab : a ≤ b) : RowF w a t v n zs := by
  rcases h with h | ⟨g, cap, hv, hg, r⟩
  · exact .inl h
  · exact .inr ⟨g, cap, hv, Nat.le_trans hab hg, r⟩
/-- a row of another type has another block -/
theorem Flat.type_ne {w : World} {g g' : Nat} {t t' : TypeId} {zs zs' : List Int} (h : Flat w g t zs) (h' : Flat w g' t' zs') (hne : t ≠ t') : g ≠ g' := by
  rintro rfl
  obtain ⟨cs, hb, _⟩ := h
  obtain ⟨cs', hb', _⟩ := h'
  rw [hb] at hb'
  injection hb' with e
  injection e with _ e2
  exact hne e2
theorem RowF.apart {w w' : World} {base n base' n' : Nat} {t t' : TypeId} {v v' : Value} {zs zs' : List Int} (h : RowF w base t v n zs) (h' : RowF w base' t' v' n' zs') (hne : t ≠ t') (hG : w.grownBy w' v'.ownBlock) : RowF w' base t v n zs := by
  rcases h with h | ⟨g, cap, hv, hg, F, hc⟩
  · exact .inl h
  · refine .inr ⟨g, cap, hv, hg, F.of_block (hG.block g F.lt ?_), hc⟩
    rcases h' with ⟨e, _⟩ | ⟨g', cap', e, _, F', _⟩
    · rw [e]; intro c; cases c
    · rw [e]; intro c
      injection c with c
      exact F.type_ne F' hne c
theorem RowF.far {w w' : World} {base n : Nat} {t : TypeId} {v : Value} {zs : List Int} {row : Option Nat} (h : RowF w base t v n zs) (hG : w.grownBy w' row) (hr : ∀ q, row = some q → q < base) : RowF w' base t v n zs := by
  rcases h with h | ⟨g, cap, hv, hg, F, hc⟩
  · exact .inl h
  · refine .inr ⟨g, cap, hv, hg, F.of_block (hG.block g F.lt ?_), hc⟩
    intro c
    have := hr g c.symm
    omega
theorem RowF.lt {w : World} {base n : Nat} {t : TypeId} {v : Value} {zs : List Int} (h : RowF w base t v n zs) : ∀ q, v.ownBlock = some q → base ≤ q ∧ q < w.heap.size := by
  rcases h with ⟨e, _⟩ | ⟨g, cap, e, hg, F, _⟩
  · rw [e]; intro q c; cases c
  · rw [e]; intro q c
    injection c with c
    have c : g = q := c
    subst c; exact ⟨hg, F.lt⟩
theorem below_rowF {w a b : World} {base n : Nat} {t : TypeId} {v : Value} {zs : List Int} (h : Below w.heap.size w a) (hR : RowF a base t v n zs) (hb : w.heap.size ≤ base) (hG : a.grownBy b v.ownBlock) : Below w.heap.size w b :=
  h.grown hG h.size (fun q hq => Nat.le_trans hb (hR.lt q hq).1)
end Go.Proofs.Ythagafkjlecagab
