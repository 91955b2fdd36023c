/- Holdings that come in: what is told of them. No condition. -/
import Derived.Test.YthagafkjlecagabGrA
import Derived.Deep.Slices
import Derived.ChangeSame
import Derived.ChangeArms
import Derived.ProofKit
namespace Go.Proofs.Ythagafkjlecagab
open Go.ChangeShapes Go.WideShapes Go.RowKit Go.Deep

/-- a slice of holdings that came in -/
def HoldsIn (w : World) (a : Option Addr) (len cap : Nat) (hs : List Hd) : Prop := hs.length = len ∧ IsHs w a hs ∧ len ≤ cap ∧ cap ≤ maxLen
set_option maxRecDepth 100000 in
theorem open_frac {H : Type} {enc : TypeId × Value → H} {w : World} {base : Nat} {spare : Nat → Bool} {held : Bool} {fuel : Nat} {cs : List Value} {x : DataW H × List MemPlace} (h : DataW.trod enc Try.prog w base spare held fuel 66 cs = some x) : ∃ n d : Int, cs = [.int .i64 n, .int .i64 d] := by
  obtain ⟨y0, y1, n', _, hl, h0, h1⟩ := trod_struct2 Try.underlying66 h
  obtain ⟨n, e0, _, _⟩ := DataW.trod_int Try.underlying3 h0
  obtain ⟨d, e1, _, _⟩ := DataW.trod_int Try.underlying3 h1
  have hc : Try.prog.cellsOf 66 = 2 := by kernel_rfl
  have hi : Try.prog.cellsOf 3 = 1 := by kernel_rfl
  have hl := hl.trans hc
  dsimp only at e0 e1
  rw [hi] at e0 e1
  match cs, hl with
  | [a, b], _ =>
    refine ⟨n, d, ?_⟩
    simp at e0 e1
    rw [e0, e1]
set_option maxRecDepth 100000 in
theorem open_hold {H : Type} {enc : TypeId × Value → H} {w : World} {base : Nat} {spare : Nat → Bool} {held : Bool} {fuel : Nat} {cs : List Value} {x : DataW H × List MemPlace} (h : DataW.trod enc Try.prog w base spare held fuel 68 cs = some x) : ∃ o n d : Int, cs = [.int .i64 o, .int .i64 n, .int .i64 d] := by
  obtain ⟨y0, y1, n', _, hl, h0, h1⟩ := trod_struct2 Try.underlying68 h
  obtain ⟨o, e0, _, _⟩ := DataW.trod_int Try.underlying3 h0
  obtain ⟨n, d, e1⟩ := open_frac h1
  have hc : Try.prog.cellsOf 68 = 3 := by kernel_rfl
  have hf : Try.prog.cellsOf 66 = 2 := by kernel_rfl
  have hi : Try.prog.cellsOf 3 = 1 := by kernel_rfl
  have hl := hl.trans hc
  dsimp only at e0 e1
  rw [hi] at e0
  rw [hf] at e1
  match cs, hl with
  | [a, b, c], _ =>
    refine ⟨o, n, d, ?_⟩
    simp at e0 e1
    rw [e0, e1.1, e1.2]
set_option maxRecDepth 100000 in
theorem open_holds {H : Type} {enc : TypeId × Value → H} {w : World} {base : Nat} {spare : Nat → Bool} {held : Bool} {fuel : Nat} {a : Option Addr} {len cap : Nat} {x : DataW H × List MemPlace} (h : DataW.trod enc Try.prog w base spare held fuel 22 [.slice a len cap] = some x) : ∃ hs, HoldsIn w a len cap hs := by
  rcases open_slice Try.underlying22 h with ⟨hcs, _⟩ | ⟨ad, l, c, m, n', D, Pl, hcs, hb, hl, hm, hmm, hx, hi⟩
  · simp at hcs
    obtain ⟨rfl, rfl, rfl⟩ := hcs
    exact ⟨[], rfl, .inl rfl, Nat.le_refl _, Nat.zero_le _⟩
  · simp at hcs
    obtain ⟨rfl, rfl, rfl⟩ := hcs
    have hc : Try.prog.cellsOf 68 = 3 := by kernel_rfl
    have hmn : len ≤ m := by rw [hmm]; split <;> omega
    have each : ∀ i, i < len → ∃ z : Hd, w.cell? (ad.add (i * 3)) = some (.int .i64 z.1) ∧ w.cell? (ad.add (i * 3 + 1)) = some (.int .i64 z.2.1) ∧ w.cell? (ad.add (i * 3 + 2)) = some (.int .i64 z.2.2) := fun i hin => by
      obtain ⟨cs', h1, h2⟩ := hi i (by omega)
      obtain ⟨o, n, d, rfl⟩ := open_hold h2
      rw [hc] at h1
      obtain ⟨_, _, hat⟩ := World.cells?_some h1
      have a0 := hat 0 (by omega)
      have a1 := hat 1 (by omega)
      have a2 := hat 2 (by omega)
      rw [add_add] at a0 a1 a2
      exact ⟨(o, n, d), a0, a1, a2⟩
    obtain ⟨f, hf⟩ : ∃ f : Nat → Hd, ∀ i, i < len → w.cell? (ad.add (i * 3)) = some (.int .i64 (f i).1) ∧ w.cell? (ad.add (i * 3 + 1)) = some (.int .i64 (f i).2.1) ∧ w.cell? (ad.add (i * 3 + 2)) = some (.int .i64 (f i).2.2) :=
      ⟨fun i => if hh : i < len then Classical.choose (each i hh) else hd0, fun i hh => by simp only [dif_pos hh]; exact Classical.choose_spec (each i hh)⟩
    refine ⟨(List.range len).map f, by simp, ?_, hl, hm⟩
    by_cases h0 : len = 0
    · subst h0; exact .inl rfl
    · obtain ⟨b, off, spot⟩ := ad
      have hsp := (hf 0 (by omega)).1
      have hspot : spot = none := by simpa [Addr.add] using World.cell?_spot hsp
      subst hspot
      refine .inr ⟨b, off, rfl, fun i hin => ?_⟩
      have hin' : i < len := by simpa using hin
      have e : ((List.range len).map f).getD i hd0 = f i := by
        rw [List.getD_eq_getElem?_getD, List.getElem?_map, List.getElem?_range hin']; rfl
      have ao : ∀ j, (⟨b, off, none⟩ : Addr).add j = ⟨b, off + j, none⟩ := fun j => by
        unfold Addr.add
        by_cases hj : j = 0
        · subst hj; simp
        · simp [hj]
      obtain ⟨q0, q1, q2⟩ := hf i hin'
      rw [ao] at q0 q1 q2
      rw [e]
      exact ⟨q0, by rw [Nat.add_assoc]; exact q1, by rw [Nat.add_assoc]; exact q2⟩
end Go.Proofs.Ythagafkjlecagab
