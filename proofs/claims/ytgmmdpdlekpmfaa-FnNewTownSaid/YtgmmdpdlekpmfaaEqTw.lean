/- equalTown of the laws: equal towns are equal. Condition: at most 1048576 of each. -/
import Derived.Test.YtgmmdpdlekpmfaaTwP
import Derived.Test.YtgmmdpdlekpmfaaEqH
import Derived.Test.YtgmmdpdlekpmfaaEqT
import Derived.Test.YtgmmdpdlekpmfaaEqN
import Derived.Test.YtgmmdpdlekpmfaaEqA
namespace Go.Proofs.Ytgmmdpdlekpmfaa
open Go.RowKit
set_option linter.unusedSimpArgs false
set_option linter.unusedVariables false
set_option maxRecDepth 100000 in
set_option maxHeartbeats 4000000 in
/-- laws.equalTown, of equal towns -/
theorem eqTw (p q : TA) (t : Tw) (w : World) (hp : IsTw w p t) (hq : IsTw w q t) :
    Calls Try.prog 22 #[twV p t, twV q t] w fun e w' => e = .returned (.bool true) ∧ Below w.heap.size w w' := by
  obtain ⟨a1, c1, a2, c2, a3, c3, a4, c4⟩ := p
  obtain ⟨d1, k1, d2, k2, d3, k3, d4, k4⟩ := q
  obtain ⟨hs, ts, ns, r, hd, ac, rt, tm, ls, cm⟩ := t
  have C1 := Lib.hid (fun W (hW : Below w.heap.size w W) => eqHd a1 d1 c1 k1 hs W (hs_below hp.h1 hW) (hs_below hq.h1 hW) hp.n1)
  have C2 := Lib.hid (fun W (hW : Below w.heap.size w W) => eqTn a2 d2 c2 k2 ts W (tn_below hp.h2 hW) (tn_below hq.h2 hW) hp.n2)
  have C3 := Lib.hid (fun W (hW : Below w.heap.size w W) => eqNd a3 d3 c3 k3 ns W (nd_below hp.h3 hW) (nd_below hq.h3 hW) hp.n3)
  have C5 := Lib.hid (fun W (hW : Below w.heap.size w W) => eqAc a4 d4 c4 k4 ac W (ac_below hp.h4 hW) (ac_below hq.h4 hW) hp.n4)
  clear hp hq
  show Calls _ _ #[.agg #[.slice a1 hs.length c1, .slice a2 ts.length c2, .slice a3 ns.length c3, .int .i64 r, .int .i64 hd, .slice a4 ac.length c4, .int .i64 rt, .int .i64 tm, .int .i64 ls, .int .i64 cm], .agg #[.slice d1 hs.length k1, .slice d2 ts.length k2, .slice d3 ns.length k3, .int .i64 r, .int .i64 hd, .slice d4 ac.length k4, .int .i64 rt, .int .i64 tm, .int .i64 ls, .int .i64 cm]] _ _
  go_enter Try.func22, Try.ntmps22
  have KA := (Blk.new w 38 #[.slice a1 hs.length c1, .slice a2 ts.length c2, .slice a3 ns.length c3, .int .i64 r, .int .i64 hd, .slice a4 ac.length c4, .int .i64 rt, .int .i64 tm, .int .i64 ls, .int .i64 cm]).alloc (.cells #[.slice d1 hs.length k1, .slice d2 ts.length k2, .slice d3 ns.length k3, .int .i64 r, .int .i64 hd, .slice d4 ac.length k4, .int .i64 rt, .int .i64 tm, .int .i64 ls, .int .i64 cm] 38)
  have KB : Blk ((w.alloc (.cells #[.slice a1 hs.length c1, .slice a2 ts.length c2, .slice a3 ns.length c3, .int .i64 r, .int .i64 hd, .slice a4 ac.length c4, .int .i64 rt, .int .i64 tm, .int .i64 ls, .int .i64 cm] 38)).alloc (.cells #[.slice d1 hs.length k1, .slice d2 ts.length k2, .slice d3 ns.length k3, .int .i64 r, .int .i64 hd, .slice d4 ac.length k4, .int .i64 rt, .int .i64 tm, .int .i64 ls, .int .i64 cm] 38)) (w.heap.size + 1) 38 #[.slice d1 hs.length k1, .slice d2 ts.length k2, .slice d3 ns.length k3, .int .i64 r, .int .i64 hd, .slice d4 ac.length k4, .int .i64 rt, .int .i64 tm, .int .i64 ls, .int .i64 cm] := by
    have := Blk.new (w.alloc (.cells #[.slice a1 hs.length c1, .slice a2 ts.length c2, .slice a3 ns.length c3, .int .i64 r, .int .i64 hd, .slice a4 ac.length c4, .int .i64 rt, .int .i64 tm, .int .i64 ls, .int .i64 cm] 38)) 38 #[.slice d1 hs.length k1, .slice d2 ts.length k2, .slice d3 ns.length k3, .int .i64 r, .int .i64 hd, .slice d4 ac.length k4, .int .i64 rt, .int .i64 tm, .int .i64 ls, .int .i64 cm]
    rw [World.size_alloc] at this; exact this
  have B : Below w.heap.size w ((w.alloc (.cells #[.slice a1 hs.length c1, .slice a2 ts.length c2, .slice a3 ns.length c3, .int .i64 r, .int .i64 hd, .slice a4 ac.length c4, .int .i64 rt, .int .i64 tm, .int .i64 ls, .int .i64 cm] 38)).alloc (.cells #[.slice d1 hs.length k1, .slice d2 ts.length k2, .slice d3 ns.length k3, .int .i64 r, .int .i64 hd, .slice d4 ac.length k4, .int .i64 rt, .int .i64 tm, .int .i64 ls, .int .i64 cm] 38)) := by go_grown
  obtain ⟨qa0, qa1, qa2, qa3, qa4, qa5, qa6, qa7, qa8, qa9⟩ := town_cells KA
  obtain ⟨qb0, qb1, qb2, qb3, qb4, qb5, qb6, qb7, qb8, qb9⟩ := town_cells KB
  go_wp2_with fail
  refine (C1.out _ B).mono ?_
  rintro e u ⟨rfl, C⟩
  replace KA := KA.next C
  replace KB := KB.next C
  replace B := bel_tr B C
  clear C qa0 qa1 qa2 qa3 qa4 qa5 qa6 qa7 qa8 qa9 qb0 qb1 qb2 qb3 qb4 qb5 qb6 qb7 qb8 qb9
  obtain ⟨qa0, qa1, qa2, qa3, qa4, qa5, qa6, qa7, qa8, qa9⟩ := town_cells KA
  obtain ⟨qb0, qb1, qb2, qb3, qb4, qb5, qb6, qb7, qb8, qb9⟩ := town_cells KB
  go_wp2_with fail
  refine (C2.out _ B).mono ?_
  rintro e u ⟨rfl, C⟩
  replace KA := KA.next C
  replace KB := KB.next C
  replace B := bel_tr B C
  clear C qa0 qa1 qa2 qa3 qa4 qa5 qa6 qa7 qa8 qa9 qb0 qb1 qb2 qb3 qb4 qb5 qb6 qb7 qb8 qb9
  obtain ⟨qa0, qa1, qa2, qa3, qa4, qa5, qa6, qa7, qa8, qa9⟩ := town_cells KA
  obtain ⟨qb0, qb1, qb2, qb3, qb4, qb5, qb6, qb7, qb8, qb9⟩ := town_cells KB
  go_wp2_with fail
  refine (C3.out _ B).mono ?_
  rintro e u ⟨rfl, C⟩
  replace KA := KA.next C
  replace KB := KB.next C
  replace B := bel_tr B C
  clear C qa0 qa1 qa2 qa3 qa4 qa5 qa6 qa7 qa8 qa9 qb0 qb1 qb2 qb3 qb4 qb5 qb6 qb7 qb8 qb9
  obtain ⟨qa0, qa1, qa2, qa3, qa4, qa5, qa6, qa7, qa8, qa9⟩ := town_cells KA
  obtain ⟨qb0, qb1, qb2, qb3, qb4, qb5, qb6, qb7, qb8, qb9⟩ := town_cells KB
  go_wp2_with fail
  refine (C5.out _ B).mono ?_
  rintro e u ⟨rfl, C⟩
  replace KA := KA.next C
  replace KB := KB.next C
  replace B := bel_tr B C
  clear C qa0 qa1 qa2 qa3 qa4 qa5 qa6 qa7 qa8 qa9 qb0 qb1 qb2 qb3 qb4 qb5 qb6 qb7 qb8 qb9
  obtain ⟨qa0, qa1, qa2, qa3, qa4, qa5, qa6, qa7, qa8, qa9⟩ := town_cells KA
  obtain ⟨qb0, qb1, qb2, qb3, qb4, qb5, qb6, qb7, qb8, qb9⟩ := town_cells KB
  go_wp2_with fail
  go_ret
  exact ⟨ret_bool (by simp), B⟩
end Go.Proofs.Ytgmmdpdlekpmfaa
