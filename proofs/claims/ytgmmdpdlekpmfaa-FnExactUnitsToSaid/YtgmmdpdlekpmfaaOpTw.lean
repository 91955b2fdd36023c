/- Towns that come in. No condition. -/
import Derived.Test.YtgmmdpdlekpmfaaTwP
import Derived.Test.YtgmmdpdlekpmfaaGrB
import Derived.Deep.Slices
import Derived.ChangeSame
import Derived.ChangeArms
import Derived.ProofKit
import Derived.WideShapes
import Derived.Lib.SmallJoins
namespace Go.Proofs.Ytgmmdpdlekpmfaa
open Go.ChangeShapes Go.WideShapes Go.RowKit Go.Deep
set_option linter.unusedSimpArgs false
set_option linter.unusedVariables false
open Go.Joins
theorem open_holds_any {H : Type} {enc : TypeId × Value → H} {w : World} {base : Nat} {spare : Nat → Bool} {held : Bool} {fuel : Nat} {cs : List Value} {x : DataW H × List MemPlace} (h : DataW.trod enc Try.prog w base spare held fuel 22 cs = some x) : ∃ a len cap xs, cs = [.slice a len cap] ∧ HoldsIn w a len cap xs := by
  have h2 := h
  rcases open_slice Try.underlying22 h with ⟨hcs, _⟩ | ⟨ad, l, c, m, n', D, Pl, hcs, _⟩
  · subst hcs; obtain ⟨xs, hx⟩ := open_holds h2; exact ⟨_, _, _, xs, rfl, hx⟩
  · subst hcs; obtain ⟨xs, hx⟩ := open_holds h2; exact ⟨_, _, _, xs, rfl, hx⟩
theorem open_tns_any {H : Type} {enc : TypeId × Value → H} {w : World} {base : Nat} {spare : Nat → Bool} {held : Bool} {fuel : Nat} {cs : List Value} {x : DataW H × List MemPlace} (h : DataW.trod enc Try.prog w base spare held fuel 23 cs = some x) : ∃ a len cap xs, cs = [.slice a len cap] ∧ TnIn w a len cap xs := by
  have h2 := h
  rcases open_slice Try.underlying23 h with ⟨hcs, _⟩ | ⟨ad, l, c, m, n', D, Pl, hcs, _⟩
  · subst hcs; obtain ⟨xs, hx⟩ := open_tns h2; exact ⟨_, _, _, xs, rfl, hx⟩
  · subst hcs; obtain ⟨xs, hx⟩ := open_tns h2; exact ⟨_, _, _, xs, rfl, hx⟩
theorem open_nds_any {H : Type} {enc : TypeId × Value → H} {w : World} {base : Nat} {spare : Nat → Bool} {held : Bool} {fuel : Nat} {cs : List Value} {x : DataW H × List MemPlace} (h : DataW.trod enc Try.prog w base spare held fuel 24 cs = some x) : ∃ a len cap xs, cs = [.slice a len cap] ∧ NdIn w a len cap xs := by
  have h2 := h
  rcases open_slice Try.underlying24 h with ⟨hcs, _⟩ | ⟨ad, l, c, m, n', D, Pl, hcs, _⟩
  · subst hcs; obtain ⟨xs, hx⟩ := open_nds h2; exact ⟨_, _, _, xs, rfl, hx⟩
  · subst hcs; obtain ⟨xs, hx⟩ := open_nds h2; exact ⟨_, _, _, xs, rfl, hx⟩
theorem open_acs_any {H : Type} {enc : TypeId × Value → H} {w : World} {base : Nat} {spare : Nat → Bool} {held : Bool} {fuel : Nat} {cs : List Value} {x : DataW H × List MemPlace} (h : DataW.trod enc Try.prog w base spare held fuel 27 cs = some x) : ∃ a len cap xs, cs = [.slice a len cap] ∧ AcIn w a len cap xs := by
  have h2 := h
  rcases open_slice Try.underlying27 h with ⟨hcs, _⟩ | ⟨ad, l, c, m, n', D, Pl, hcs, _⟩
  · subst hcs; obtain ⟨xs, hx⟩ := open_acs h2; exact ⟨_, _, _, xs, rfl, hx⟩
  · subst hcs; obtain ⟨xs, hx⟩ := open_acs h2; exact ⟨_, _, _, xs, rfl, hx⟩
/-- a town that came in -/
structure TwIn (w : World) (p : TA) (t : Tw) : Prop where
  h1 : IsHs w p.a1 t.hs
  h2 : IsTn w p.a2 t.ts
  h3 : IsNd w p.a3 t.ns
  h4 : IsAc w p.a4 t.ac
  k1 : t.hs.length ≤ p.c1
  k2 : t.ts.length ≤ p.c2
  k3 : t.ns.length ≤ p.c3
  k4 : t.ac.length ≤ p.c4
  m1 : p.c1 ≤ maxLen
  m2 : p.c2 ≤ maxLen
  m3 : p.c3 ≤ maxLen
  m4 : p.c4 ≤ maxLen
theorem TwIn.is {w : World} {p : TA} {t : Tw} (h : TwIn w p t) (n1 : t.hs.length ≤ 1048576) (n2 : t.ts.length ≤ 1048576) (n3 : t.ns.length ≤ 1048576) (n4 : t.ac.length ≤ 1048576) : IsTw w p t := ⟨h.h1, h.h2, h.h3, h.h4, n1, n2, n3, n4, h.k1, h.k2, h.k3, h.k4⟩
theorem array10 {cs : Array Value} (h : cs.size = 10) : ∃ c0 c1 c2 c3 c4 c5 c6 c7 c8 c9, cs = #[c0, c1, c2, c3, c4, c5, c6, c7, c8, c9] := by
  obtain ⟨l⟩ := cs
  match l, h with
  | [c0, c1, c2, c3, c4, c5, c6, c7, c8, c9], _ => exact ⟨c0, c1, c2, c3, c4, c5, c6, c7, c8, c9, rfl⟩
theorem trod_int1 {H : Type} {enc : TypeId × Value → H} {w : World} {base : Nat} {spare : Nat → Bool} {held : Bool} {fuel : Nat} {c : Value} {x : DataW H × List MemPlace} (h : DataW.trod enc Try.prog w base spare held fuel 3 [c] = some x) : ∃ z, c = .int .i64 z := by
  obtain ⟨z, e, _, _⟩ := DataW.trod_int Try.underlying3 h
  injection e with e
  exact ⟨z, e⟩
set_option maxRecDepth 100000 in
set_option maxHeartbeats 4000000 in
theorem open_town {H : Type} {enc : TypeId × Value → H} {w : World} {r : Reach} {b0 base : Nat} {spare : Nat → Bool} {held : Bool} {v : Value} {d : DataW H} {p : List MemPlace} (hv : Value.okWide Try.prog w r b0 29 v) (h : DataW.Trod enc Try.prog w base spare held 29 v d p) : ∃ q t, v = twV q t ∧ TwIn w q t := by
  obtain ⟨cs, rfl, hsz⟩ := okWide_struct Try.underlying29 hv
  have hC : Try.prog.cellsOf 29 = 10 := by kernel_rfl
  obtain ⟨c0, c1, c2, c3, c4, c5, c6, c7, c8, c9, rfl⟩ := array10 (hsz.trans hC)
  obtain ⟨fuel, hf⟩ := h
  obtain ⟨xs, n, _, hx, _, hxl, hfs⟩ := DataW.trod_struct Try.underlying29 hf
  have hxl : xs.length = 9 := hxl
  match xs, hxl with
  | [y0, y1, y2, y3, y4, y5, y6, y7, y8], _ =>
  have s1 : Try.prog.cellsOf 22 = 1 := by kernel_rfl
  have s2 : Try.prog.cellsOf 23 = 1 := by kernel_rfl
  have s3 : Try.prog.cellsOf 24 = 1 := by kernel_rfl
  have s4 : Try.prog.cellsOf 26 = 2 := by kernel_rfl
  have s5 : Try.prog.cellsOf 27 = 1 := by kernel_rfl
  have s6 : Try.prog.cellsOf 3 = 1 := by kernel_rfl
  have g0 : DataW.trod enc Try.prog w base spare held n 22 (([c0, c1, c2, c3, c4, c5, c6, c7, c8, c9].drop 0).take (Try.prog.cellsOf 22)) = some y0 := hfs 0 _ rfl
  have g1 : DataW.trod enc Try.prog w base spare held n 23 (([c0, c1, c2, c3, c4, c5, c6, c7, c8, c9].drop 1).take (Try.prog.cellsOf 23)) = some y1 := hfs 1 _ rfl
  have g2 : DataW.trod enc Try.prog w base spare held n 24 (([c0, c1, c2, c3, c4, c5, c6, c7, c8, c9].drop 2).take (Try.prog.cellsOf 24)) = some y2 := hfs 2 _ rfl
  have g3 : DataW.trod enc Try.prog w base spare held n 26 (([c0, c1, c2, c3, c4, c5, c6, c7, c8, c9].drop 3).take (Try.prog.cellsOf 26)) = some y3 := hfs 3 _ rfl
  have g4 : DataW.trod enc Try.prog w base spare held n 27 (([c0, c1, c2, c3, c4, c5, c6, c7, c8, c9].drop 5).take (Try.prog.cellsOf 27)) = some y4 := hfs 4 _ rfl
  have g5 : DataW.trod enc Try.prog w base spare held n 3 (([c0, c1, c2, c3, c4, c5, c6, c7, c8, c9].drop 6).take (Try.prog.cellsOf 3)) = some y5 := hfs 5 _ rfl
  have g6 : DataW.trod enc Try.prog w base spare held n 3 (([c0, c1, c2, c3, c4, c5, c6, c7, c8, c9].drop 7).take (Try.prog.cellsOf 3)) = some y6 := hfs 6 _ rfl
  have g7 : DataW.trod enc Try.prog w base spare held n 3 (([c0, c1, c2, c3, c4, c5, c6, c7, c8, c9].drop 8).take (Try.prog.cellsOf 3)) = some y7 := hfs 7 _ rfl
  have g8 : DataW.trod enc Try.prog w base spare held n 3 (([c0, c1, c2, c3, c4, c5, c6, c7, c8, c9].drop 9).take (Try.prog.cellsOf 3)) = some y8 := hfs 8 _ rfl
  rw [s1] at g0
  rw [s2] at g1
  rw [s3] at g2
  rw [s4] at g3
  rw [s5] at g4
  rw [s6] at g5 g6 g7 g8
  change DataW.trod enc Try.prog w base spare held n 22 [c0] = some y0 at g0
  change DataW.trod enc Try.prog w base spare held n 23 [c1] = some y1 at g1
  change DataW.trod enc Try.prog w base spare held n 24 [c2] = some y2 at g2
  change DataW.trod enc Try.prog w base spare held n 26 [c3, c4] = some y3 at g3
  change DataW.trod enc Try.prog w base spare held n 27 [c5] = some y4 at g4
  change DataW.trod enc Try.prog w base spare held n 3 [c6] = some y5 at g5
  change DataW.trod enc Try.prog w base spare held n 3 [c7] = some y6 at g6
  change DataW.trod enc Try.prog w base spare held n 3 [c8] = some y7 at g7
  change DataW.trod enc Try.prog w base spare held n 3 [c9] = some y8 at g8
  obtain ⟨a1, l1, k1, hs, e1, i1⟩ := open_holds_any g0
  obtain ⟨a2, l2, k2, ts, e2, i2⟩ := open_tns_any g1
  obtain ⟨a3, l3, k3, ns, e3, i3⟩ := open_nds_any g2
  obtain ⟨a4, l4, k4, ac, e4, i4⟩ := open_acs_any g4
  obtain ⟨rt, e5⟩ := trod_int1 g5
  obtain ⟨tm, e6⟩ := trod_int1 g6
  obtain ⟨ls, e7⟩ := trod_int1 g7
  obtain ⟨cm, e8⟩ := trod_int1 g8
  obtain ⟨z0, z1, n', _, hl, b0, b1⟩ := trod_struct2 Try.underlying26 g3
  replace b0 : DataW.trod enc Try.prog w base spare held n' 3 (([c3, c4].drop 0).take (Try.prog.cellsOf 3)) = some z0 := b0
  replace b1 : DataW.trod enc Try.prog w base spare held n' 3 (([c3, c4].drop 1).take (Try.prog.cellsOf 3)) = some z1 := b1
  rw [s6] at b0 b1
  change DataW.trod enc Try.prog w base spare held n' 3 [c3] = some z0 at b0
  change DataW.trod enc Try.prog w base spare held n' 3 [c4] = some z1 at b1
  obtain ⟨r1, e9⟩ := trod_int1 b0
  obtain ⟨hd, e10⟩ := trod_int1 b1
  injection e1 with e1
  injection e2 with e2
  injection e3 with e3
  injection e4 with e4
  subst e1 e2 e3 e4 e5 e6 e7 e8 e9 e10
  obtain ⟨rfl, x1, y1, m1⟩ := i1
  obtain ⟨rfl, x2, y2, m2⟩ := i2
  obtain ⟨rfl, x3, y3, m3⟩ := i3
  obtain ⟨rfl, x4, y4, m4⟩ := i4
  exact ⟨⟨a1, k1, a2, k2, a3, k3, a4, k4⟩, ⟨hs, ts, ns, r1, hd, ac, rt, tm, ls, cm⟩, rfl, ⟨x1, x2, x3, x4, y1, y2, y3, y4, m1, m2, m3, m4⟩⟩
end Go.Proofs.Ytgmmdpdlekpmfaa
