/- The laws' own functions on towns: comparisons, marks. Condition: at most 1048576 of each. -/
import Derived.Test.YtgmmdpdlekpmfaaLawTw
namespace Go.Proofs.Ytgmmdpdlekpmfaa
open Go.RowKit
set_option linter.unusedSimpArgs false
set_option linter.unusedVariables false
set_option maxRecDepth 100000 in
set_option maxHeartbeats 4000000 in
/-- laws.eqTown, of equal towns -/
theorem leqTw (p q : TA) (t : Tw) (w : World) (hp : IsTw w p t) (hq : IsTw w q t) :
    Calls Try.prog 15 #[twV p t, twV q t] w fun e w' => e = .returned (.bool true) ∧ Below w.heap.size w w' := by
  obtain ⟨a1, c1, a2, c2, a3, c3, a4, c4⟩ := p
  obtain ⟨d1, k1, d2, k2, d3, k3, d4, k4⟩ := q
  obtain ⟨hs, ts, ns, r, hd, ac, rt, tm, ls, cm⟩ := t
  have C1 := Lib.hid (fun W (hW : Below w.heap.size w W) => leqH a1 d1 c1 k1 hs W (hs_below hp.h1 hW) (hs_below hq.h1 hW) hp.n1)
  have C2 := Lib.hid (fun W (hW : Below w.heap.size w W) => leqTn a2 d2 c2 k2 ts W (tn_below hp.h2 hW) (tn_below hq.h2 hW) hp.n2)
  have C3 := Lib.hid (fun W (hW : Below w.heap.size w W) => leqNd a3 d3 c3 k3 ns W (nd_below hp.h3 hW) (nd_below hq.h3 hW) hp.n3)
  have C5 := Lib.hid (fun W (hW : Below w.heap.size w W) => leqAc a4 d4 c4 k4 ac W (ac_below hp.h4 hW) (ac_below hq.h4 hW) hp.n4)
  clear hp hq
  show Calls _ _ #[.agg #[.slice a1 hs.length c1, .slice a2 ts.length c2, .slice a3 ns.length c3, .int .i64 r, .int .i64 hd, .slice a4 ac.length c4, .int .i64 rt, .int .i64 tm, .int .i64 ls, .int .i64 cm], .agg #[.slice d1 hs.length k1, .slice d2 ts.length k2, .slice d3 ns.length k3, .int .i64 r, .int .i64 hd, .slice d4 ac.length k4, .int .i64 rt, .int .i64 tm, .int .i64 ls, .int .i64 cm]] _ _
  go_enter Try.func15, Try.ntmps15
  have KA := (Blk.new w 38 #[.slice a1 hs.length c1, .slice a2 ts.length c2, .slice a3 ns.length c3, .int .i64 r, .int .i64 hd, .slice a4 ac.length c4, .int .i64 rt, .int .i64 tm, .int .i64 ls, .int .i64 cm]).alloc (.cells #[.slice d1 hs.length k1, .slice d2 ts.length k2, .slice d3 ns.length k3, .int .i64 r, .int .i64 hd, .slice d4 ac.length k4, .int .i64 rt, .int .i64 tm, .int .i64 ls, .int .i64 cm] 38)
  have KB : Blk ((w.alloc (.cells #[.slice a1 hs.length c1, .slice a2 ts.length c2, .slice a3 ns.length c3, .int .i64 r, .int .i64 hd, .slice a4 ac.length c4, .int .i64 rt, .int .i64 tm, .int .i64 ls, .int .i64 cm] 38)).alloc (.cells #[.slice d1 hs.length k1, .slice d2 ts.length k2, .slice d3 ns.length k3, .int .i64 r, .int .i64 hd, .slice d4 ac.length k4, .int .i64 rt, .int .i64 tm, .int .i64 ls, .int .i64 cm] 38)) (w.heap.size + 1) 38 #[.slice d1 hs.length k1, .slice d2 ts.length k2, .slice d3 ns.length k3, .int .i64 r, .int .i64 hd, .slice d4 ac.length k4, .int .i64 rt, .int .i64 tm, .int .i64 ls, .int .i64 cm] := by
    have := Blk.new (w.alloc (.cells #[.slice a1 hs.length c1, .slice a2 ts.length c2, .slice a3 ns.length c3, .int .i64 r, .int .i64 hd, .slice a4 ac.length c4, .int .i64 rt, .int .i64 tm, .int .i64 ls, .int .i64 cm] 38)) 38 #[.slice d1 hs.length k1, .slice d2 ts.length k2, .slice d3 ns.length k3, .int .i64 r, .int .i64 hd, .slice d4 ac.length k4, .int .i64 rt, .int .i64 tm, .int .i64 ls, .int .i64 cm]
    rw [World.size_alloc] at this; exact this
  have B : Below w.heap.size w ((w.alloc (.cells #[.slice a1 hs.length c1, .slice a2 ts.length c2, .slice a3 ns.length c3, .int .i64 r, .int .i64 hd, .slice a4 ac.length c4, .int .i64 rt, .int .i64 tm, .int .i64 ls, .int .i64 cm] 38)).alloc (.cells #[.slice d1 hs.length k1, .slice d2 ts.length k2, .slice d3 ns.length k3, .int .i64 r, .int .i64 hd, .slice d4 ac.length k4, .int .i64 rt, .int .i64 tm, .int .i64 ls, .int .i64 cm] 38)) := by go_grown
  obtain ⟨qa0, qa1, qa2, qa3, qa4, qa5, qa6, qa7, qa8, qa9⟩ := town_cells KA
  obtain ⟨qb0, qb1, qb2, qb3, qb4, qb5, qb6, qb7, qb8, qb9⟩ := town_cells KB
  go_wp2_with fail
  refine (C1.out _ B).mono ?_
  rintro e u ⟨rfl, C⟩
  replace KA := KA.next C
  replace KB := KB.next C
  replace B := bel_tr B C
  clear C qa0 qa1 qa2 qa3 qa4 qa5 qa6 qa7 qa8 qa9 qb0 qb1 qb2 qb3 qb4 qb5 qb6 qb7 qb8 qb9
  obtain ⟨qa0, qa1, qa2, qa3, qa4, qa5, qa6, qa7, qa8, qa9⟩ := town_cells KA
  obtain ⟨qb0, qb1, qb2, qb3, qb4, qb5, qb6, qb7, qb8, qb9⟩ := town_cells KB
  go_wp2_with fail
  refine (C2.out _ B).mono ?_
  rintro e u ⟨rfl, C⟩
  replace KA := KA.next C
  replace KB := KB.next C
  replace B := bel_tr B C
  clear C qa0 qa1 qa2 qa3 qa4 qa5 qa6 qa7 qa8 qa9 qb0 qb1 qb2 qb3 qb4 qb5 qb6 qb7 qb8 qb9
  obtain ⟨qa0, qa1, qa2, qa3, qa4, qa5, qa6, qa7, qa8, qa9⟩ := town_cells KA
  obtain ⟨qb0, qb1, qb2, qb3, qb4, qb5, qb6, qb7, qb8, qb9⟩ := town_cells KB
  go_wp2_with fail
  refine (C3.out _ B).mono ?_
  rintro e u ⟨rfl, C⟩
  replace KA := KA.next C
  replace KB := KB.next C
  replace B := bel_tr B C
  clear C qa0 qa1 qa2 qa3 qa4 qa5 qa6 qa7 qa8 qa9 qb0 qb1 qb2 qb3 qb4 qb5 qb6 qb7 qb8 qb9
  obtain ⟨qa0, qa1, qa2, qa3, qa4, qa5, qa6, qa7, qa8, qa9⟩ := town_cells KA
  obtain ⟨qb0, qb1, qb2, qb3, qb4, qb5, qb6, qb7, qb8, qb9⟩ := town_cells KB
  go_wp2_with fail
  refine (leqBasin r hd _).mono ?_
  rintro e u ⟨rfl, C⟩
  replace KA := KA.next C
  replace KB := KB.next C
  replace B := bel_tr B C
  clear C qa0 qa1 qa2 qa3 qa4 qa5 qa6 qa7 qa8 qa9 qb0 qb1 qb2 qb3 qb4 qb5 qb6 qb7 qb8 qb9
  obtain ⟨qa0, qa1, qa2, qa3, qa4, qa5, qa6, qa7, qa8, qa9⟩ := town_cells KA
  obtain ⟨qb0, qb1, qb2, qb3, qb4, qb5, qb6, qb7, qb8, qb9⟩ := town_cells KB
  go_wp2_with fail
  refine (C5.out _ B).mono ?_
  rintro e u ⟨rfl, C⟩
  replace KA := KA.next C
  replace KB := KB.next C
  replace B := bel_tr B C
  clear C qa0 qa1 qa2 qa3 qa4 qa5 qa6 qa7 qa8 qa9 qb0 qb1 qb2 qb3 qb4 qb5 qb6 qb7 qb8 qb9
  obtain ⟨qa0, qa1, qa2, qa3, qa4, qa5, qa6, qa7, qa8, qa9⟩ := town_cells KA
  obtain ⟨qb0, qb1, qb2, qb3, qb4, qb5, qb6, qb7, qb8, qb9⟩ := town_cells KB
  go_wp2_with fail
  go_ret
  exact ⟨rfl, B⟩
/-- a world that differs in some blocks alone -/
structure OffW (w w' : World) (S : Nat → Prop) : Prop where
  os : w'.os = w.os
  tape : w'.tape = w.tape
  output : w'.output = w.output
  size : w.heap.size ≤ w'.heap.size
  block : ∀ i, i < w.heap.size → ¬ S i → w'.heap[i]? = w.heap[i]?
theorem OffW.of_grown {w w' : World} {row : Option Nat} {S : Nat → Prop} (h : w.grownBy w' row) (hS : ∀ q, row = some q → S q) : OffW w w' S :=
  ⟨h.os, h.tape, h.output, h.size, fun i hi hn => h.block i hi (fun e => hn (hS i e.symm))⟩
theorem OffW.of_below {w w' : World} {S : Nat → Prop} (h : Below w.heap.size w w') : OffW w w' S := ⟨h.os, h.tape, h.output, h.size, fun i hi _ => h.block i hi⟩
theorem OffW.trans {a b c : World} {S : Nat → Prop} (h : OffW a b S) (g : OffW b c S) : OffW a c S :=
  ⟨g.os.trans h.os, g.tape.trans h.tape, g.output.trans h.output, Nat.le_trans h.size g.size, fun i hi hn => (g.block i (Nat.lt_of_lt_of_le hi h.size) hn).trans (h.block i hi hn)⟩
theorem OffW.below {w0 w w' : World} {S : Nat → Prop} (B : Below w0.heap.size w0 w) (h : OffW w w' S) (hS : ∀ q, S q → w0.heap.size ≤ q) : Below w0.heap.size w0 w' :=
  ⟨h.os.trans B.os, h.tape.trans B.tape, h.output.trans B.output, Nat.le_trans B.size h.size, fun i hi => (h.block i (Nat.lt_of_lt_of_le hi B.size) (fun c => Nat.lt_irrefl _ (Nat.lt_of_lt_of_le hi (hS i c)))).trans (B.block i hi)⟩
theorem RowF.off {w w' : World} {base n : Nat} {t : TypeId} {v : Value} {zs : List Int} {S : Nat → Prop} (h : RowF w base t v n zs) (hO : OffW w w' S) (hS : ∀ q, S q → q < base) : RowF w' base t v n zs := by
  rcases h with h | ⟨g, cap, hv, hg, F, hc⟩
  · exact .inl h
  · refine .inr ⟨g, cap, hv, hg, F.of_block (hO.block g F.lt (fun c => ?_)), hc⟩
    have := hS g c; omega
theorem TwO.off {w w' : World} {base : Nat} {p : TA} {t : Tw} {S : Nat → Prop} (h : TwO w base p t) (hO : OffW w w' S) (hS : ∀ q, S q → q < base) : TwO w' base p t :=
  ⟨h.o1.off hO hS, h.n1, h.o2.off hO hS, h.n2, h.o3.off hO hS, h.n3, h.o4.off hO hS, h.n4⟩
/-- the blocks of a town's lists -/
def TA.own (p : TA) (q : Nat) : Prop := p.a1.map (·.block) = some q ∨ p.a2.map (·.block) = some q ∨ p.a3.map (·.block) = some q ∨ p.a4.map (·.block) = some q
theorem own_map {a : Option Addr} {n c q : Nat} : (Value.slice a n c).ownBlock = some q ↔ a.map (·.block) = some q := by
  cases a <;> simp [Value.ownBlock]
theorem TwO.own_ge {w : World} {base : Nat} {p : TA} {t : Tw} (h : TwO w base p t) {q : Nat} (hq : p.own q) : base ≤ q ∧ q < w.heap.size := by
  rcases hq with e | e | e | e
  · exact h.o1.lt q (own_map.2 e)
  · exact h.o2.lt q (own_map.2 e)
  · exact h.o3.lt q (own_map.2 e)
  · exact h.o4.lt q (own_map.2 e)
/-- how many numbers a town's lists hold -/
def mkN (t : Tw) : Nat := t.hs.length * 3 + t.ts.length * 2 + t.ns.length * 5 + t.ac.length * 2
/-- a town whose lists are written anew -/
structure MkO (w : World) (base : Nat) (p : TA) (t : Tw) (s : Int) : Prop where
  m1 : RowF w base 97 (.slice p.a1 t.hs.length p.c1) t.hs.length (mkS (s) (t.hs.length * 3))
  n1 : t.hs.length ≤ 1048576
  m2 : RowF w base 99 (.slice p.a2 t.ts.length p.c2) t.ts.length (mkS (s + ((t.hs.length * 3 : Nat) : Int)) (t.ts.length * 2))
  n2 : t.ts.length ≤ 1048576
  m3 : RowF w base 101 (.slice p.a3 t.ns.length p.c3) t.ns.length (mkS (s + ((t.hs.length * 3 : Nat) : Int) + ((t.ts.length * 2 : Nat) : Int)) (t.ns.length * 5))
  n3 : t.ns.length ≤ 1048576
  m4 : RowF w base 45 (.slice p.a4 t.ac.length p.c4) t.ac.length (mkS (s + ((t.hs.length * 3 : Nat) : Int) + ((t.ts.length * 2 : Nat) : Int) + ((t.ns.length * 5 : Nat) : Int)) (t.ac.length * 2))
  n4 : t.ac.length ≤ 1048576
theorem MkO.next {w w' : World} {base : Nat} {p : TA} {t : Tw} {s : Int} (h : MkO w base p t s) (hb : Below w.heap.size w w') : MkO w' base p t s :=
  ⟨h.m1.next hb, h.n1, h.m2.next hb, h.n2, h.m3.next hb, h.n3, h.m4.next hb, h.n4⟩
theorem MkO.off {w w' : World} {base : Nat} {p : TA} {t : Tw} {s : Int} {S : Nat → Prop} (h : MkO w base p t s) (hO : OffW w w' S) (hS : ∀ q, S q → q < base) : MkO w' base p t s :=
  ⟨h.m1.off hO hS, h.n1, h.m2.off hO hS, h.n2, h.m3.off hO hS, h.n3, h.m4.off hO hS, h.n4⟩
theorem ty_ne : 97 ≠ 99 ∧ 97 ≠ 101 ∧ 97 ≠ 45 ∧ 99 ≠ 101 ∧ 99 ≠ 45 ∧ 101 ≠ 45 := by decide
/-- a struct's own block is none of a row's -/
theorem blk_apart {w w' : World} {g base n : Nat} {t t' : TypeId} {cs : Array Value} {v : Value} {zs : List Int} (h : Blk w g t cs) (h' : RowF w base t' v n zs) (hne : t ≠ t') (hG : w.grownBy w' v.ownBlock) : Blk w' g t cs := by
  refine h.grown hG (fun c => ?_)
  rcases h' with ⟨e, _⟩ | ⟨g', cap, e, _, F, _⟩
  · rw [e] at c; cases c
  · rw [e] at c
    injection c with c
    have c : g = g' := c
    subst c
    obtain ⟨cs', hb, _⟩ := F
    unfold Blk at h
    rw [h] at hb
    injection hb with e
    injection e with _ e2
    exact hne e2
set_option maxRecDepth 100000 in
set_option maxHeartbeats 4000000 in
/-- laws.markTown -/
theorem mkTw (p : TA) (t : Tw) (base : Nat) (s : Int) (w : World) (h : TwO w base p t) (s0 : 0 ≤ s) (s1 : s ≤ 100000000) :
    Calls Try.prog 19 #[twV p t, .int .i64 s] w fun e w' => e = .returned (.int .i64 (s + (mkN t : Int))) ∧ MkO w' base p t s ∧ OffW w w' p.own := by
  obtain ⟨a1, c1, a2, c2, a3, c3, a4, c4⟩ := p
  obtain ⟨hs, ts, ns, r, hd, ac, rt, tm, ls, cm⟩ := t
  obtain ⟨o1, n1, o2, n2, o3, n3, o4, n4⟩ := h
  dsimp only at o1 n1 o2 n2 o3 n3 o4 n4
  have hl1 := flat_len hs
  have hl2 := flatTn_len ts
  have hl3 := flatNd_len ns
  have hl4 := flatAc_len ac
  obtain ⟨t12, t13, t14, t23, t24, t34⟩ := ty_ne
  have HN : Hid (mkN ⟨hs, ts, ns, r, hd, ac, rt, tm, ls, cm⟩ = hs.length * 3 + ts.length * 2 + ns.length * 5 + ac.length * 2) := rfl
  show Calls _ _ #[.agg #[.slice a1 hs.length c1, .slice a2 ts.length c2, .slice a3 ns.length c3, .int .i64 r, .int .i64 hd, .slice a4 ac.length c4, .int .i64 rt, .int .i64 tm, .int .i64 ls, .int .i64 cm], .int .i64 s] _ _
  go_enter Try.func19, Try.ntmps19
  have K := Blk.new w 38 #[.slice a1 hs.length c1, .slice a2 ts.length c2, .slice a3 ns.length c3, .int .i64 r, .int .i64 hd, .slice a4 ac.length c4, .int .i64 rt, .int .i64 tm, .int .i64 ls, .int .i64 cm]
  have B := (Below.refl w.heap.size w).alloc (Nat.le_refl _) (.cells #[.slice a1 hs.length c1, .slice a2 ts.length c2, .slice a3 ns.length c3, .int .i64 r, .int .i64 hd, .slice a4 ac.length c4, .int .i64 rt, .int .i64 tm, .int .i64 ls, .int .i64 cm] 38)
  replace o1 := o1.next B
  replace o2 := o2.next B
  replace o3 := o3.next B
  replace o4 := o4.next B
  have O : OffW w (w.alloc (.cells #[.slice a1 hs.length c1, .slice a2 ts.length c2, .slice a3 ns.length c3, .int .i64 r, .int .i64 hd, .slice a4 ac.length c4, .int .i64 rt, .int .i64 tm, .int .i64 ls, .int .i64 cm] 38)) (TA.own ⟨a1, c1, a2, c2, a3, c3, a4, c4⟩) := OffW.of_below B
  obtain ⟨q0, q1, q2, q3, q4, q5, q6, q7, q8, q9⟩ := town_cells K
  clear B
  go_wp2_with fail
  refine (mkH a1 c1 hs.length base _ (s) _ o1 hl1 n1 (by omega) (by omega)).mono ?_
  rintro e u1 ⟨rfl, M1, G⟩
  replace o2 := o2.apart o1 (t12).symm G
  replace o3 := o3.apart o1 (t13).symm G
  replace o4 := o4.apart o1 (t14).symm G
  replace K := blk_apart K o1 (by decide) G
  replace O := O.trans (OffW.of_grown G (fun q hq => .inl (own_map.1 hq)))
  clear G o1 q0 q1 q2 q3 q4 q5 q6 q7 q8 q9
  obtain ⟨q0, q1, q2, q3, q4, q5, q6, q7, q8, q9⟩ := town_cells K
  go_wp2_with fail
  refine (mkTn a2 c2 ts.length base _ (s + ((hs.length * 3 : Nat) : Int)) _ o2 hl2 n2 (by omega) (by omega)).mono ?_
  rintro e u2 ⟨rfl, M2, G⟩
  replace M1 := M1.apart o2 (t12) G
  replace o3 := o3.apart o2 (t23).symm G
  replace o4 := o4.apart o2 (t24).symm G
  replace K := blk_apart K o2 (by decide) G
  replace O := O.trans (OffW.of_grown G (fun q hq => .inr (.inl (own_map.1 hq))))
  clear G o2 q0 q1 q2 q3 q4 q5 q6 q7 q8 q9
  obtain ⟨q0, q1, q2, q3, q4, q5, q6, q7, q8, q9⟩ := town_cells K
  go_wp2_with fail
  refine (mkNd a3 c3 ns.length base _ (s + ((hs.length * 3 : Nat) : Int) + ((ts.length * 2 : Nat) : Int)) _ o3 hl3 n3 (by omega) (by omega)).mono ?_
  rintro e u3 ⟨rfl, M3, G⟩
  replace M1 := M1.apart o3 (t13) G
  replace M2 := M2.apart o3 (t23) G
  replace o4 := o4.apart o3 (t34).symm G
  replace K := blk_apart K o3 (by decide) G
  replace O := O.trans (OffW.of_grown G (fun q hq => .inr (.inr (.inl (own_map.1 hq)))))
  clear G o3 q0 q1 q2 q3 q4 q5 q6 q7 q8 q9
  obtain ⟨q0, q1, q2, q3, q4, q5, q6, q7, q8, q9⟩ := town_cells K
  go_wp2_with fail
  refine (mkAc a4 c4 ac.length base _ (s + ((hs.length * 3 : Nat) : Int) + ((ts.length * 2 : Nat) : Int) + ((ns.length * 5 : Nat) : Int)) _ o4 hl4 n4 (by omega) (by omega)).mono ?_
  rintro e u4 ⟨rfl, M4, G⟩
  replace M1 := M1.apart o4 (t14) G
  replace M2 := M2.apart o4 (t24) G
  replace M3 := M3.apart o4 (t34) G
  replace K := blk_apart K o4 (by decide) G
  replace O := O.trans (OffW.of_grown G (fun q hq => .inr (.inr (.inr (own_map.1 hq)))))
  clear G o4 q0 q1 q2 q3 q4 q5 q6 q7 q8 q9
  obtain ⟨q0, q1, q2, q3, q4, q5, q6, q7, q8, q9⟩ := town_cells K
  go_wp2_with fail
  go_ret
  exact ⟨ret_int (by rw [HN.out]; omega), ⟨M1, n1, M2, n2, M3, n3, M4, n4⟩, O⟩
set_option maxRecDepth 100000 in
set_option maxHeartbeats 4000000 in
/-- laws.heldTown -/
theorem hkTw (p : TA) (t : Tw) (base : Nat) (s : Int) (w : World) (h : MkO w base p t s) (s0 : 0 ≤ s) (s1 : s ≤ 100000000) :
    Calls Try.prog 20 #[twV p t, .int .i64 s] w fun e w' => e = .returned (.int .i64 (s + (mkN t : Int))) ∧ Below w.heap.size w w' := by
  obtain ⟨a1, c1, a2, c2, a3, c3, a4, c4⟩ := p
  obtain ⟨hs, ts, ns, r, hd, ac, rt, tm, ls, cm⟩ := t
  obtain ⟨m1, n1, m2, n2, m3, n3, m4, n4⟩ := h
  dsimp only at m1 n1 m2 n2 m3 n3 m4 n4
  have HN : Hid (mkN ⟨hs, ts, ns, r, hd, ac, rt, tm, ls, cm⟩ = hs.length * 3 + ts.length * 2 + ns.length * 5 + ac.length * 2) := rfl
  show Calls _ _ #[.agg #[.slice a1 hs.length c1, .slice a2 ts.length c2, .slice a3 ns.length c3, .int .i64 r, .int .i64 hd, .slice a4 ac.length c4, .int .i64 rt, .int .i64 tm, .int .i64 ls, .int .i64 cm], .int .i64 s] _ _
  go_enter Try.func20, Try.ntmps20
  have K := Blk.new w 38 #[.slice a1 hs.length c1, .slice a2 ts.length c2, .slice a3 ns.length c3, .int .i64 r, .int .i64 hd, .slice a4 ac.length c4, .int .i64 rt, .int .i64 tm, .int .i64 ls, .int .i64 cm]
  have B := (Below.refl w.heap.size w).alloc (Nat.le_refl _) (.cells #[.slice a1 hs.length c1, .slice a2 ts.length c2, .slice a3 ns.length c3, .int .i64 r, .int .i64 hd, .slice a4 ac.length c4, .int .i64 rt, .int .i64 tm, .int .i64 ls, .int .i64 cm] 38)
  replace m1 := m1.next B
  replace m2 := m2.next B
  replace m3 := m3.next B
  replace m4 := m4.next B
  obtain ⟨q0, q1, q2, q3, q4, q5, q6, q7, q8, q9⟩ := town_cells K
  go_wp2_with fail
  refine (hkH a1 c1 hs.length base (s) _ m1 n1 (by omega) (by omega)).mono ?_
  rintro e u ⟨rfl, rfl⟩
  have d1 : decide (s + ((hs.length * 3 : Nat) : Int) < 0) = false := decide_eq_false (by omega)
  go_wp2_with fail
  refine (hkTn a2 c2 ts.length base (s + ((hs.length * 3 : Nat) : Int)) _ m2 n2 (by omega) (by omega)).mono ?_
  rintro e u ⟨rfl, rfl⟩
  have d2 : decide (s + ((hs.length * 3 : Nat) : Int) + ((ts.length * 2 : Nat) : Int) < 0) = false := decide_eq_false (by omega)
  go_wp2_with fail
  refine (hkNd a3 c3 ns.length base (s + ((hs.length * 3 : Nat) : Int) + ((ts.length * 2 : Nat) : Int)) _ m3 n3 (by omega) (by omega)).mono ?_
  rintro e u ⟨rfl, rfl⟩
  have d3 : decide (s + ((hs.length * 3 : Nat) : Int) + ((ts.length * 2 : Nat) : Int) + ((ns.length * 5 : Nat) : Int) < 0) = false := decide_eq_false (by omega)
  go_wp2_with fail
  refine (hkAc a4 c4 ac.length base (s + ((hs.length * 3 : Nat) : Int) + ((ts.length * 2 : Nat) : Int) + ((ns.length * 5 : Nat) : Int)) _ m4 n4 (by omega) (by omega)).mono ?_
  rintro e u ⟨rfl, rfl⟩
  have d4 : decide (s + ((hs.length * 3 : Nat) : Int) + ((ts.length * 2 : Nat) : Int) + ((ns.length * 5 : Nat) : Int) + ((ac.length * 2 : Nat) : Int) < 0) = false := decide_eq_false (by omega)
  go_wp2_with fail
  go_ret
  exact ⟨ret_int (by rw [HN.out]; omega), B⟩
theorem outTw_lit {w : World} {hs : List Hd} {ts : List Tn} {ns : List Nd} {r hd : Int} {ac : List Ac} {rt tm ls cm : Int} {e : Ending} {w' : World} (h : OutTw w ⟨hs, ts, ns, r, hd, ac, rt, tm, ls, cm⟩ e w') :
    ∃ a1 c1 a2 c2 a3 c3 a4 c4, e = .returned (.agg #[.slice a1 hs.length c1, .slice a2 ts.length c2, .slice a3 ns.length c3, .int .i64 r, .int .i64 hd, .slice a4 ac.length c4, .int .i64 rt, .int .i64 tm, .int .i64 ls, .int .i64 cm]) ∧ TwO w' w.heap.size ⟨a1, c1, a2, c2, a3, c3, a4, c4⟩ ⟨hs, ts, ns, r, hd, ac, rt, tm, ls, cm⟩ ∧ Below w.heap.size w w' := by
  obtain ⟨⟨a1, c1, a2, c2, a3, c3, a4, c4⟩, h1, h2, h3⟩ := h
  exact ⟨a1, c1, a2, c2, a3, c3, a4, c4, h1, h2, h3⟩
theorem rowF_not {w : World} {g base n c : Nat} {a : Option Addr} {t t' : TypeId} {cs : Array Value} {zs : List Int} (h : Blk w g t cs) (h' : RowF w base t' (.slice a n c) n zs) (hne : t ≠ t') : ¬ a.map (·.block) = some g := by
  intro q
  rcases h' with ⟨e, _⟩ | ⟨g', cap, e, _, F, _⟩
  · injection e with e1 e2 e3
    subst e1; cases q
  · injection e with e1 e2 e3
    subst e1
    injection q with q
    have q : g' = g := q
    subst q
    obtain ⟨cs', hb, _⟩ := F
    unfold Blk at h
    rw [h] at hb
    injection hb with e
    injection e with _ e2
    exact hne e2
theorem TwO.not_own {w : World} {base g : Nat} {p : TA} {t : Tw} {cs : Array Value} (h : TwO w base p t) (K : Blk w g 38 cs) : ¬ p.own g := by
  rintro (q | q | q | q)
  · exact rowF_not K h.o1 (by decide) q
  · exact rowF_not K h.o2 (by decide) q
  · exact rowF_not K h.o3 (by decide) q
  · exact rowF_not K h.o4 (by decide) q
theorem Blk.off {w w' : World} {g : Nat} {t : TypeId} {cs : Array Value} {S : Nat → Prop} (h : Blk w g t cs) (hO : OffW w w' S) (hS : ¬ S g) : Blk w' g t cs := (hO.block g h.lt hS).trans h
end Go.Proofs.Ytgmmdpdlekpmfaa
