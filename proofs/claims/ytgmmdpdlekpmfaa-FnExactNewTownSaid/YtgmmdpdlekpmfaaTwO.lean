/- Towns of the call's own. No condition. -/
import Derived.Test.YtgmmdpdlekpmfaaRowF
import Derived.Test.YtgmmdpdlekpmfaaTwP
namespace Go.Proofs.Ytgmmdpdlekpmfaa
open Go.RowKit
set_option linter.unusedSimpArgs false
set_option linter.unusedVariables false
theorem rowF_hs {w : World} {base c : Nat} {a : Option Addr} {xs : List Hd} (h : RowF w base 97 (.slice a xs.length c) xs.length (flatH xs)) : IsHs w a xs ∧ xs.length ≤ c := by
  rcases h with ⟨e, h0⟩ | ⟨g, cap, e, hg, F, hc⟩
  · injection e with e1 e2 e3
    refine ⟨.inl (List.eq_nil_of_length_eq_zero h0), by omega⟩
  · injection e with e1 e2 e3
    subst e1 e3
    exact ⟨F.hs, hc⟩
theorem rowF_tn {w : World} {base c : Nat} {a : Option Addr} {xs : List Tn} (h : RowF w base 99 (.slice a xs.length c) xs.length (flatTn xs)) : IsTn w a xs ∧ xs.length ≤ c := by
  rcases h with ⟨e, h0⟩ | ⟨g, cap, e, hg, F, hc⟩
  · injection e with e1 e2 e3
    refine ⟨.inl (List.eq_nil_of_length_eq_zero h0), by omega⟩
  · injection e with e1 e2 e3
    subst e1 e3
    exact ⟨F.tn, hc⟩
theorem rowF_nd {w : World} {base c : Nat} {a : Option Addr} {xs : List Nd} (h : RowF w base 101 (.slice a xs.length c) xs.length (flatNd xs)) : IsNd w a xs ∧ xs.length ≤ c := by
  rcases h with ⟨e, h0⟩ | ⟨g, cap, e, hg, F, hc⟩
  · injection e with e1 e2 e3
    refine ⟨.inl (List.eq_nil_of_length_eq_zero h0), by omega⟩
  · injection e with e1 e2 e3
    subst e1 e3
    exact ⟨F.nd, hc⟩
theorem rowF_ac {w : World} {base c : Nat} {a : Option Addr} {xs : List Ac} (h : RowF w base 45 (.slice a xs.length c) xs.length (flatAc xs)) : IsAc w a xs ∧ xs.length ≤ c := by
  rcases h with ⟨e, h0⟩ | ⟨g, cap, e, hg, F, hc⟩
  · injection e with e1 e2 e3
    refine ⟨.inl (List.eq_nil_of_length_eq_zero h0), by omega⟩
  · injection e with e1 e2 e3
    subst e1 e3
    exact ⟨F.ac, hc⟩
/-- a town whose lists are rows of the call's own -/
structure TwO (w : World) (base : Nat) (p : TA) (t : Tw) : Prop where
  o1 : RowF w base 97 (.slice p.a1 t.hs.length p.c1) t.hs.length (flatH t.hs)
  n1 : t.hs.length ≤ 1048576
  o2 : RowF w base 99 (.slice p.a2 t.ts.length p.c2) t.ts.length (flatTn t.ts)
  n2 : t.ts.length ≤ 1048576
  o3 : RowF w base 101 (.slice p.a3 t.ns.length p.c3) t.ns.length (flatNd t.ns)
  n3 : t.ns.length ≤ 1048576
  o4 : RowF w base 45 (.slice p.a4 t.ac.length p.c4) t.ac.length (flatAc t.ac)
  n4 : t.ac.length ≤ 1048576
theorem TwO.is {w : World} {base : Nat} {p : TA} {t : Tw} (h : TwO w base p t) : IsTw w p t :=
  ⟨(rowF_hs h.o1).1, (rowF_tn h.o2).1, (rowF_nd h.o3).1, (rowF_ac h.o4).1, h.n1, h.n2, h.n3, h.n4, (rowF_hs h.o1).2, (rowF_tn h.o2).2, (rowF_nd h.o3).2, (rowF_ac h.o4).2⟩
theorem TwO.next {w w' : World} {base : Nat} {p : TA} {t : Tw} (h : TwO w base p t) (hb : Below w.heap.size w w') : TwO w' base p t :=
  ⟨h.o1.next hb, h.n1, h.o2.next hb, h.n2, h.o3.next hb, h.n3, h.o4.next hb, h.n4⟩
theorem TwO.base {w : World} {a b : Nat} {p : TA} {t : Tw} (h : TwO w b p t) (hab : a ≤ b) : TwO w a p t :=
  ⟨h.o1.base hab, h.n1, h.o2.base hab, h.n2, h.o3.base hab, h.n3, h.o4.base hab, h.n4⟩
theorem TwO.zero (w : World) (base : Nat) : TwO w base TA.zero Tw.zero := ⟨.inl ⟨rfl, rfl⟩, by decide, .inl ⟨rfl, rfl⟩, by decide, .inl ⟨rfl, rfl⟩, by decide, .inl ⟨rfl, rfl⟩, by decide⟩
/-- what a function that hands back a town leaves -/
def OutTw (w : World) (t : Tw) (e : Ending) (w' : World) : Prop := ∃ p, e = .returned (twV p t) ∧ TwO w' w.heap.size p t ∧ Below w.heap.size w w'
/-- ten cells of a block stored anew -/
def sets10 (w : World) (b : Nat) (v0 v1 v2 v3 v4 v5 v6 v7 v8 v9 : Value) : World := (((((((((w.setCell ⟨b, 0, none⟩ v0).setCell ⟨b, 1, none⟩ v1).setCell ⟨b, 2, none⟩ v2).setCell ⟨b, 3, none⟩ v3).setCell ⟨b, 4, none⟩ v4).setCell ⟨b, 5, none⟩ v5).setCell ⟨b, 6, none⟩ v6).setCell ⟨b, 7, none⟩ v7).setCell ⟨b, 8, none⟩ v8).setCell ⟨b, 9, none⟩ v9
theorem flat_setC {w : World} {g b j : Nat} {t : TypeId} {zs : List Int} {v : Value} (h : Flat w g t zs) (hne : g ≠ b) : Flat (w.setCell ⟨b, j, none⟩ v) g t zs := h.of_block (Below.heap_setCell w ⟨b, j, none⟩ v g hne)
theorem sets10_flat {w : World} {g b : Nat} {t : TypeId} {zs : List Int} {v0 v1 v2 v3 v4 v5 v6 v7 v8 v9 : Value} (h : Flat w g t zs) (hne : g ≠ b) : Flat (sets10 w b v0 v1 v2 v3 v4 v5 v6 v7 v8 v9) g t zs :=
  flat_setC (flat_setC (flat_setC (flat_setC (flat_setC (flat_setC (flat_setC (flat_setC (flat_setC (flat_setC h hne) hne) hne) hne) hne) hne) hne) hne) hne) hne
theorem sets10_below {w W : World} {b : Nat} {v0 v1 v2 v3 v4 v5 v6 v7 v8 v9 : Value} (h : Below w.heap.size w W) (hb : w.heap.size ≤ b) : Below w.heap.size w (sets10 W b v0 v1 v2 v3 v4 v5 v6 v7 v8 v9) :=
  (((((((((h.setCell (p := ⟨b, 0, none⟩) hb v0).setCell (p := ⟨b, 1, none⟩) hb v1).setCell (p := ⟨b, 2, none⟩) hb v2).setCell (p := ⟨b, 3, none⟩) hb v3).setCell (p := ⟨b, 4, none⟩) hb v4).setCell (p := ⟨b, 5, none⟩) hb v5).setCell (p := ⟨b, 6, none⟩) hb v6).setCell (p := ⟨b, 7, none⟩) hb v7).setCell (p := ⟨b, 8, none⟩) hb v8).setCell (p := ⟨b, 9, none⟩) hb v9
theorem sets10_blk {w : World} {b : Nat} {t : TypeId} {u0 u1 u2 u3 u4 u5 u6 u7 u8 u9 v0 v1 v2 v3 v4 v5 v6 v7 v8 v9 : Value} (h : Blk w b t #[u0, u1, u2, u3, u4, u5, u6, u7, u8, u9]) : Blk (sets10 w b v0 v1 v2 v3 v4 v5 v6 v7 v8 v9) b t #[v0, v1, v2, v3, v4, v5, v6, v7, v8, v9] := by
  have k := (((((((((h.set_ 0 v0).set_ 1 v1).set_ 2 v2).set_ 3 v3).set_ 4 v4).set_ 5 v5).set_ 6 v6).set_ 7 v7).set_ 8 v8).set_ 9 v9
  simp only [List.setIfInBounds_toArray, List.set_cons_zero, List.set_cons_succ] at k
  exact k
theorem flatN_new (w : World) (t : TypeId) (zs : List Int) : Flat (w.alloc (.cells (zs.map (Value.int .i64)).toArray t)) w.heap.size t zs := by
  refine ⟨_, Blk.new w t _, fun j hj => ?_⟩
  rw [List.getElem?_toArray, List.getElem?_map, List.getElem?_eq_getElem hj, List.getD_eq_getElem?_getD, List.getElem?_eq_getElem hj]; rfl
theorem flat_alloc {w : World} {g : Nat} {t : TypeId} {zs : List Int} (h : Flat w g t zs) (O : Obj) : Flat (w.alloc O) g t zs := h.next ((Below.refl _ w).alloc (Nat.le_refl _) O)
end Go.Proofs.Ytgmmdpdlekpmfaa
