/- Leases that come in. No condition. -/
import Derived.Test.YthagafkjlecagabLs
import Derived.Test.YthagafkjlecagabOpenH
import Derived.Deep.Slices
import Derived.ChangeSame
import Derived.ChangeArms
import Derived.ProofKit
namespace Go.Proofs.Ythagafkjlecagab
open Go.ChangeShapes Go.WideShapes Go.RowKit Go.Deep
set_option linter.unusedSimpArgs false
set_option linter.unusedVariables false

theorem trod_intD {H : Type} {enc : TypeId × Value → H} {w : World} {base : Nat} {spare : Nat → Bool} {held : Bool} {fuel : Nat} {c : Value} {x : DataW H × List MemPlace} (h : DataW.trod enc Try.prog w base spare held fuel 3 [c] = some x) : ∃ z, c = .int .i64 z := by
  obtain ⟨z, e, _, _⟩ := DataW.trod_int Try.underlying3 h
  injection e with e
  exact ⟨z, e⟩
set_option maxRecDepth 100000 in
theorem open_lease {H : Type} {enc : TypeId × Value → H} {w : World} {base : Nat} {spare : Nat → Bool} {held : Bool} {fuel : Nat} {cs : List Value} {x : DataW H × List MemPlace} (h : DataW.trod enc Try.prog w base spare held fuel 71 cs = some x) : ∃ y : Lr, cs = [.int .i64 y.ow, .int .i64 y.te, .int .i64 y.n, .int .i64 y.d, .int .i64 y.fr, .int .i64 y.en] := by
  obtain ⟨xs, n, _, _, hcl, hxl, hfs⟩ := DataW.trod_struct Try.underlying71 h
  have hC : Try.prog.cellsOf 71 = 6 := by kernel_rfl
  have hcl := hcl.trans hC
  have hxl : xs.length = 5 := hxl
  match xs, hxl, cs, hcl with
  | [y0, y1, y2, y3, y4], _, [c0, c1, c2, c3, c4, c5], _ =>
  have s1 : Try.prog.cellsOf 3 = 1 := by kernel_rfl
  have s2 : Try.prog.cellsOf 66 = 2 := by kernel_rfl
  have g0 : DataW.trod enc Try.prog w base spare held n 3 (([c0, c1, c2, c3, c4, c5].drop 0).take (Try.prog.cellsOf 3)) = some y0 := hfs 0 _ rfl
  rw [s1] at g0
  change DataW.trod enc Try.prog w base spare held n 3 [c0] = some y0 at g0
  have g1 : DataW.trod enc Try.prog w base spare held n 3 (([c0, c1, c2, c3, c4, c5].drop 1).take (Try.prog.cellsOf 3)) = some y1 := hfs 1 _ rfl
  rw [s1] at g1
  change DataW.trod enc Try.prog w base spare held n 3 [c1] = some y1 at g1
  have g2 : DataW.trod enc Try.prog w base spare held n 66 (([c0, c1, c2, c3, c4, c5].drop 2).take (Try.prog.cellsOf 66)) = some y2 := hfs 2 _ rfl
  rw [s2] at g2
  change DataW.trod enc Try.prog w base spare held n 66 [c2, c3] = some y2 at g2
  have g3 : DataW.trod enc Try.prog w base spare held n 3 (([c0, c1, c2, c3, c4, c5].drop 4).take (Try.prog.cellsOf 3)) = some y3 := hfs 3 _ rfl
  rw [s1] at g3
  change DataW.trod enc Try.prog w base spare held n 3 [c4] = some y3 at g3
  have g4 : DataW.trod enc Try.prog w base spare held n 3 (([c0, c1, c2, c3, c4, c5].drop 5).take (Try.prog.cellsOf 3)) = some y4 := hfs 4 _ rfl
  rw [s1] at g4
  change DataW.trod enc Try.prog w base spare held n 3 [c5] = some y4 at g4
  obtain ⟨a, e0⟩ := trod_intD g0
  obtain ⟨b, e1⟩ := trod_intD g1
  obtain ⟨m, d, e2⟩ := open_frac g2
  obtain ⟨f, e3⟩ := trod_intD g3
  obtain ⟨g, e4⟩ := trod_intD g4
  injection e2 with e2 e5
  injection e5 with e5
  subst e0 e1 e2 e3 e4 e5
  exact ⟨⟨a, b, m, d, f, g⟩, rfl⟩
/-- leases that came in -/
def LrIn (w : World) (a : Option Addr) (len cap : Nat) (ls : List Lr) : Prop := ls.length = len ∧ IsLs w a ls ∧ len ≤ cap ∧ cap ≤ maxLen
set_option maxRecDepth 100000 in
theorem open_lrs {H : Type} {enc : TypeId × Value → H} {w : World} {base : Nat} {spare : Nat → Bool} {held : Bool} {fuel : Nat} {a : Option Addr} {len cap : Nat} {x : DataW H × List MemPlace} (h : DataW.trod enc Try.prog w base spare held fuel 23 [.slice a len cap] = some x) : ∃ ls, LrIn w a len cap ls := by
  rcases open_slice Try.underlying23 h with ⟨hcs, _⟩ | ⟨ad, l, c, m, n', D, Pl, hcs, hb, hl, hm, hmm, hx, hi⟩
  · simp at hcs
    obtain ⟨rfl, rfl, rfl⟩ := hcs
    exact ⟨[], rfl, .inl rfl, Nat.le_refl _, Nat.zero_le _⟩
  · simp at hcs
    obtain ⟨rfl, rfl, rfl⟩ := hcs
    have hc : Try.prog.cellsOf 71 = 6 := by kernel_rfl
    have hmn : len ≤ m := by rw [hmm]; split <;> omega
    have each : ∀ i, i < len → ∃ y : Lr, w.cell? (ad.add (i * 6)) = some (.int .i64 y.ow) ∧ w.cell? (ad.add (i * 6 + 1)) = some (.int .i64 y.te) ∧ w.cell? (ad.add (i * 6 + 2)) = some (.int .i64 y.n) ∧ w.cell? (ad.add (i * 6 + 3)) = some (.int .i64 y.d) ∧ w.cell? (ad.add (i * 6 + 4)) = some (.int .i64 y.fr) ∧ w.cell? (ad.add (i * 6 + 5)) = some (.int .i64 y.en) := fun i hin => by
      obtain ⟨cs', h1, h2⟩ := hi i (by omega)
      obtain ⟨y, rfl⟩ := open_lease h2
      rw [hc] at h1
      obtain ⟨_, _, hat⟩ := World.cells?_some h1
      have a0 := hat 0 (by omega)
      have a1 := hat 1 (by omega)
      have a2 := hat 2 (by omega)
      have a3 := hat 3 (by omega)
      have a4 := hat 4 (by omega)
      have a5 := hat 5 (by omega)
      rw [add_add] at a0 a1 a2 a3 a4 a5
      exact ⟨y, a0, a1, a2, a3, a4, a5⟩
    obtain ⟨f, hf⟩ : ∃ f : Nat → Lr, ∀ i, i < len → w.cell? (ad.add (i * 6)) = some (.int .i64 (f i).ow) ∧ w.cell? (ad.add (i * 6 + 1)) = some (.int .i64 (f i).te) ∧ w.cell? (ad.add (i * 6 + 2)) = some (.int .i64 (f i).n) ∧ w.cell? (ad.add (i * 6 + 3)) = some (.int .i64 (f i).d) ∧ w.cell? (ad.add (i * 6 + 4)) = some (.int .i64 (f i).fr) ∧ w.cell? (ad.add (i * 6 + 5)) = some (.int .i64 (f i).en) :=
      ⟨fun i => if hh : i < len then Classical.choose (each i hh) else lr0, fun i hh => by simp only [dif_pos hh]; exact Classical.choose_spec (each i hh)⟩
    refine ⟨(List.range len).map f, by simp, ?_, hl, hm⟩
    by_cases h0 : len = 0
    · subst h0; exact .inl rfl
    · obtain ⟨b, off, spot⟩ := ad
      have hsp := (hf 0 (by omega)).1
      have hspot : spot = none := by simpa [Addr.add] using World.cell?_spot hsp
      subst hspot
      refine .inr ⟨b, off, rfl, fun i hin => ?_⟩
      have hin' : i < len := by simpa using hin
      have e : ((List.range len).map f).getD i lr0 = f i := by
        rw [List.getD_eq_getElem?_getD, List.getElem?_map, List.getElem?_range hin']; rfl
      have ao : ∀ j, (⟨b, off, none⟩ : Addr).add j = ⟨b, off + j, none⟩ := fun j => by
        unfold Addr.add
        by_cases hj : j = 0
        · subst hj; simp
        · simp [hj]
      obtain ⟨q0, q1, q2, q3, q4, q5⟩ := hf i hin'
      rw [ao] at q0 q1 q2 q3 q4 q5
      rw [e]
      exact ⟨q0, by rw [Nat.add_assoc]; exact q1, by rw [Nat.add_assoc]; exact q2, by rw [Nat.add_assoc]; exact q3, by rw [Nat.add_assoc]; exact q4, by rw [Nat.add_assoc]; exact q5⟩
end Go.Proofs.Ythagafkjlecagab
