/- Contracts and facts of functions of this program, in build order. Conditions: those stated in each. -/
import Derived.Test.YtigapnbpgbfbhaaGrA
import Derived.Deep.Slices
import Derived.ChangeSame
import Derived.ChangeArms
import Derived.ProofKit
import Derived.Deep.RegionWith
namespace Go.Proofs.Ytigapnbpgbfbhaa
open Go.ChangeShapes Go.WideShapes Go.RowKit Go.Deep

abbrev Nd := Int × Int × Int × Int × Int
abbrev nd0 : Nd := (0, 0, 0, 0, 0)
/-- the numbers, one after the other -/
def flatNd : List Nd → List Int
  | [] => []
  | h :: t => h.1 :: h.2.1 :: h.2.2.1 :: h.2.2.2.1 :: h.2.2.2.2 :: flatNd t
theorem flatNd_len : ∀ xs : List Nd, (flatNd xs).length = xs.length * 5 := by
  intro xs
  induction xs with
  | nil => rfl
  | cons h t ih => show (flatNd t).length + 1 + 1 + 1 + 1 + 1 = (t.length + 1) * 5; rw [ih]; omega
theorem flatNd_append : ∀ a b : List Nd, flatNd (a ++ b) = flatNd a ++ flatNd b := by
  intro a b
  induction a with
  | nil => rfl
  | cons h t ih => show h.1 :: h.2.1 :: h.2.2.1 :: h.2.2.2.1 :: h.2.2.2.2 :: flatNd (t ++ b) = _; rw [ih]; rfl
theorem flatNd_get : ∀ (xs : List Nd) (k : Nat), k < xs.length → (flatNd xs).getD (k * 5) 0 = (xs.getD k nd0).1 ∧ (flatNd xs).getD (k * 5 + 1) 0 = (xs.getD k nd0).2.1 ∧ (flatNd xs).getD (k * 5 + 2) 0 = (xs.getD k nd0).2.2.1 ∧ (flatNd xs).getD (k * 5 + 3) 0 = (xs.getD k nd0).2.2.2.1 ∧ (flatNd xs).getD (k * 5 + 4) 0 = (xs.getD k nd0).2.2.2.2 := by
  intro xs
  induction xs with
  | nil => intro k h; simp at h
  | cons h t ih =>
    intro k hk
    cases k with
    | zero => exact ⟨rfl, rfl, rfl, rfl, rfl⟩
    | succ k =>
      have := ih k (by simpa using hk)
      rw [show (k + 1) * 5 = k * 5 + 1 + 1 + 1 + 1 + 1 from by omega]
      exact this
theorem flatNd_take (xs : List Nd) (k : Nat) : (flatNd xs).take (k * 5) = flatNd (xs.take k) := by
  induction xs generalizing k with
  | nil => simp [flatNd]
  | cons h t ih =>
    cases k with
    | zero => rfl
    | succ k =>
      rw [show (k + 1) * 5 = k * 5 + 1 + 1 + 1 + 1 + 1 from by omega]
      show h.1 :: h.2.1 :: h.2.2.1 :: h.2.2.2.1 :: h.2.2.2.2 :: (flatNd t).take (k * 5) = _
      rw [ih]; rfl
theorem flatNd_drop (xs : List Nd) (k : Nat) : (flatNd xs).drop (k * 5) = flatNd (xs.drop k) := by
  induction xs generalizing k with
  | nil => simp [flatNd]
  | cons h t ih =>
    cases k with
    | zero => rfl
    | succ k =>
      rw [show (k + 1) * 5 = k * 5 + 1 + 1 + 1 + 1 + 1 from by omega]
      show (flatNd t).drop (k * 5) = _
      rw [ih]; rfl
/-- Nodes xs, read through a slice at address a -/
def IsNd (w : World) (a : Option Addr) (xs : List Nd) : Prop := xs = [] ∨ ∃ g o, a = some ⟨g, o, none⟩ ∧ ∀ i, i < xs.length → w.cell? ⟨g, o + i * 5, none⟩ = some (.int .i64 (xs.getD i nd0).1) ∧ w.cell? ⟨g, o + i * 5 + 1, none⟩ = some (.int .i64 (xs.getD i nd0).2.1) ∧ w.cell? ⟨g, o + i * 5 + 2, none⟩ = some (.int .i64 (xs.getD i nd0).2.2.1) ∧ w.cell? ⟨g, o + i * 5 + 3, none⟩ = some (.int .i64 (xs.getD i nd0).2.2.2.1) ∧ w.cell? ⟨g, o + i * 5 + 4, none⟩ = some (.int .i64 (xs.getD i nd0).2.2.2.2)
theorem nd_below {w w' : World} {a : Option Addr} {xs : List Nd} (h : IsNd w a xs) (hB : Below w.heap.size w w') : IsNd w' a xs := by
  rcases h with h | ⟨g, o, ha, hc⟩
  · exact .inl h
  · refine .inr ⟨g, o, ha, fun i hi => ?_⟩
    obtain ⟨c0, c1, c2, c3, c4⟩ := hc i hi
    have kp : ∀ p v, w.cell? ⟨g, p, none⟩ = some v → w'.cell? ⟨g, p, none⟩ = some v := fun p v c => (hB.cell (p := ⟨g, p, none⟩) (World.block_lt_of_cell? w _ c)).trans c
    exact ⟨kp _ _ c0, kp _ _ c1, kp _ _ c2, kp _ _ c3, kp _ _ c4⟩
theorem nd_at {w wr : World} {g o : Nat} {xs : List Nd} (hc : ∀ i, i < xs.length → w.cell? ⟨g, o + i * 5, none⟩ = some (.int .i64 (xs.getD i nd0).1) ∧ w.cell? ⟨g, o + i * 5 + 1, none⟩ = some (.int .i64 (xs.getD i nd0).2.1) ∧ w.cell? ⟨g, o + i * 5 + 2, none⟩ = some (.int .i64 (xs.getD i nd0).2.2.1) ∧ w.cell? ⟨g, o + i * 5 + 3, none⟩ = some (.int .i64 (xs.getD i nd0).2.2.2.1) ∧ w.cell? ⟨g, o + i * 5 + 4, none⟩ = some (.int .i64 (xs.getD i nd0).2.2.2.2)) (hB : Below w.heap.size w wr) {k : Nat} (hk : k < xs.length) :
    wr.cell? ⟨g, o + k * 5, none⟩ = some (.int .i64 (xs.getD k nd0).1) ∧ wr.cell? ⟨g, o + k * 5 + 1, none⟩ = some (.int .i64 (xs.getD k nd0).2.1) ∧ wr.cell? ⟨g, o + k * 5 + 2, none⟩ = some (.int .i64 (xs.getD k nd0).2.2.1) ∧ wr.cell? ⟨g, o + k * 5 + 3, none⟩ = some (.int .i64 (xs.getD k nd0).2.2.2.1) ∧ wr.cell? ⟨g, o + k * 5 + 4, none⟩ = some (.int .i64 (xs.getD k nd0).2.2.2.2) := by
  obtain ⟨c0, c1, c2, c3, c4⟩ := hc k hk
  have kp : ∀ p v, w.cell? ⟨g, p, none⟩ = some v → wr.cell? ⟨g, p, none⟩ = some v := fun p v c => (hB.cell (p := ⟨g, p, none⟩) (World.block_lt_of_cell? w _ c)).trans c
  exact ⟨kp _ _ c0, kp _ _ c1, kp _ _ c2, kp _ _ c3, kp _ _ c4⟩
theorem Flat.nd {w : World} {g : Nat} {t : TypeId} {xs : List Nd} (h : Flat w g t (flatNd xs)) : IsNd w (some ⟨g, 0, none⟩) xs := by
  refine .inr ⟨g, 0, rfl, fun i hi => ?_⟩
  obtain ⟨a0, a1, a2, a3, a4⟩ := flatNd_get xs i hi
  have hl := flatNd_len xs
  rw [Nat.zero_add]
  exact ⟨by rw [h.cell (by omega), a0], by rw [h.cell (by omega), a1], by rw [h.cell (by omega), a2], by rw [h.cell (by omega), a3], by rw [h.cell (by omega), a4]⟩
theorem nd_take {w : World} {g o : Nat} {xs : List Nd} (hc : ∀ i, i < xs.length → w.cell? ⟨g, o + i * 5, none⟩ = some (.int .i64 (xs.getD i nd0).1) ∧ w.cell? ⟨g, o + i * 5 + 1, none⟩ = some (.int .i64 (xs.getD i nd0).2.1) ∧ w.cell? ⟨g, o + i * 5 + 2, none⟩ = some (.int .i64 (xs.getD i nd0).2.2.1) ∧ w.cell? ⟨g, o + i * 5 + 3, none⟩ = some (.int .i64 (xs.getD i nd0).2.2.2.1) ∧ w.cell? ⟨g, o + i * 5 + 4, none⟩ = some (.int .i64 (xs.getD i nd0).2.2.2.2)) (k : Nat) : IsNd w (some ⟨g, o, none⟩) (xs.take k) := by
  refine .inr ⟨g, o, rfl, fun i hi => ?_⟩
  rw [List.length_take] at hi
  have e : (xs.take k).getD i nd0 = xs.getD i nd0 := by
    rw [List.getD_eq_getElem?_getD, List.getD_eq_getElem?_getD, List.getElem?_take_of_lt (by omega)]
  rw [e]; exact hc i (by omega)
/-- the cells -/
def valsNd (xs : List Nd) : List Value := (flatNd xs).map (Value.int .i64)
theorem valsNd_len (xs : List Nd) : (valsNd xs).length = xs.length * 5 := by unfold valsNd; rw [List.length_map, flatNd_len]
theorem valsNd_append (a b : List Nd) : valsNd (a ++ b) = valsNd a ++ valsNd b := by unfold valsNd; rw [flatNd_append, List.map_append]
theorem valsNd_one (xs : List Nd) : ∀ u ∈ valsNd xs, u.oneCell' = true := fun u hu => by
  unfold valsNd at hu
  obtain ⟨z, _, rfl⟩ := List.mem_map.1 hu
  rfl
theorem valsNd_get {xs : List Nd} {k : Nat} (h : k < xs.length) : (valsNd xs)[k * 5]? = some (.int .i64 (xs.getD k nd0).1) ∧ (valsNd xs)[k * 5 + 1]? = some (.int .i64 (xs.getD k nd0).2.1) ∧ (valsNd xs)[k * 5 + 2]? = some (.int .i64 (xs.getD k nd0).2.2.1) ∧ (valsNd xs)[k * 5 + 3]? = some (.int .i64 (xs.getD k nd0).2.2.2.1) ∧ (valsNd xs)[k * 5 + 4]? = some (.int .i64 (xs.getD k nd0).2.2.2.2) := by
  obtain ⟨a0, a1, a2, a3, a4⟩ := flatNd_get xs k h
  have hl := flatNd_len xs
  have get : ∀ j, j < (flatNd xs).length → (valsNd xs)[j]? = some (.int .i64 ((flatNd xs).getD j 0)) := fun j hj => by
    unfold valsNd
    rw [List.getElem?_map, List.getElem?_eq_getElem hj, List.getD_eq_getElem?_getD, List.getElem?_eq_getElem hj]; rfl
  rw [get _ (by omega), get _ (by omega), get _ (by omega), get _ (by omega), get _ (by omega), a0, a1, a2, a3, a4]
  exact ⟨rfl, rfl, rfl, rfl, rfl⟩
theorem nd_reads {w : World} {a : Option Addr} {xs : List Nd} (h : IsNd w a xs) : Reads w w.heap.size 5 a xs.length (valsNd xs) := by
  refine ⟨valsNd_len xs, fun hn => ?_⟩
  rcases h with rfl | ⟨g, o, rfl, hc⟩
  · exact absurd hn (by simp)
  · refine ⟨⟨g, o, none⟩, rfl, ?_, fun j u hu => ?_⟩
    · exact World.block_lt_of_cell? w _ (hc 0 hn).1
    · have hl := valsNd_len xs
      have hj : j < (valsNd xs).length := by
        rcases Nat.lt_or_ge j (valsNd xs).length with h | h
        · exact h
        · rw [List.getElem?_eq_none h] at hu; cases hu
      have hk : j / 5 < xs.length := by omega
      obtain ⟨c0, c1, c2, c3, c4⟩ := hc _ hk
      obtain ⟨v0, v1, v2, v3, v4⟩ := valsNd_get hk
      have hm : j % 5 = 0 ∨ j % 5 = 1 ∨ j % 5 = 2 ∨ j % 5 = 3 ∨ j % 5 = 4 := by omega
      rw [add_off]
      rcases hm with e | e | e | e | e
      · have ej : j = j / 5 * 5 := by omega
        rw [ej] at hu ⊢; rw [v0] at hu; rw [c0, ← hu]
      · have ej : j = j / 5 * 5 + 1 := by omega
        rw [ej] at hu ⊢; rw [v1] at hu; rw [← Nat.add_assoc, c1, ← hu]
      · have ej : j = j / 5 * 5 + 2 := by omega
        rw [ej] at hu ⊢; rw [v2] at hu; rw [← Nat.add_assoc, c2, ← hu]
      · have ej : j = j / 5 * 5 + 3 := by omega
        rw [ej] at hu ⊢; rw [v3] at hu; rw [← Nat.add_assoc, c3, ← hu]
      · have ej : j = j / 5 * 5 + 4 := by omega
        rw [ej] at hu ⊢; rw [v4] at hu; rw [← Nat.add_assoc, c4, ← hu]
theorem reads_nd {w : World} {B : Nat} {a : Option Addr} {xs : List Nd} (h : Reads w B 5 a xs.length (valsNd xs)) (hsp : ∀ ad, a = some ad → ad.spot = none) : IsNd w a xs := by
  by_cases hn : xs = []
  · exact .inl hn
  · obtain ⟨ad, rfl, _, hc⟩ := h.2 (by cases xs with | nil => exact absurd rfl hn | cons _ _ => simp)
    obtain ⟨g, o, sp⟩ := ad
    obtain rfl : sp = none := hsp _ rfl
    refine .inr ⟨g, o, rfl, fun i hi => ?_⟩
    obtain ⟨v0, v1, v2, v3, v4⟩ := valsNd_get hi
    have e0 := hc _ _ v0
    have e1 := hc _ _ v1
    have e2 := hc _ _ v2
    have e3 := hc _ _ v3
    have e4 := hc _ _ v4
    rw [add_off] at e0 e1 e2 e3 e4
    rw [← Nat.add_assoc] at e1 e2 e3 e4
    exact ⟨e0, e1, e2, e3, e4⟩
theorem infoNd : (Try.prog.info? 47).map (fun i => (i.zero, i.size, i.bytes)) = some (some (.agg #[.int .i64 0, .int .i64 0, .int .i64 0, .int .i64 0, .int .i64 0]), 5, 40) := by kernel_rfl
/-- a row of the call's own that holds xs -/
def OwnNd (w : World) (base : Nat) (v : Value) (xs : List Nd) : Prop := w.ownsRow base 47 5 v xs.length (valsNd xs)
theorem own_nd {w : World} {base : Nat} {v : Value} {xs : List Nd} (h : OwnNd w base v xs) : ∃ (b : Option Addr) (cap : Nat), v = .slice b xs.length cap ∧ IsNd w b xs := by
  have h0 := h
  rcases h.2 with ⟨hv, hn⟩ | ⟨g, cap, cur, hv, _⟩
  · exact ⟨none, 0, by rw [hv, hn], .inl (List.eq_nil_of_length_eq_zero hn)⟩
  · subst hv
    exact ⟨some ⟨g, 0, none⟩, cap, rfl, reads_nd (Reads.of_own h0) (fun ad e => by injection e with e; rw [← e])⟩

/-- a slice of Nodes that came in -/
def NdIn (w : World) (a : Option Addr) (len cap : Nat) (xs : List Nd) : Prop := xs.length = len ∧ IsNd w a xs ∧ len ≤ cap ∧ cap ≤ maxLen
theorem trod_struct5 {H : Type} {enc : TypeId × Value → H} {w : World} {base : Nat} {spare : Nat → Bool} {held : Bool} {t : TypeId} {f0 f1 f2 f3 f4 : Field} {fuel : Nat} {cs : List Value} {x : DataW H × List MemPlace} (ht : Try.prog.underlying t = some (.struct #[f0, f1, f2, f3, f4])) (h : DataW.trod enc Try.prog w base spare held fuel t cs = some x) :
    ∃ y0 y1 y2 y3 y4 n, cs.length = Try.prog.cellsOf t ∧ DataW.trod enc Try.prog w base spare held n f0.type ((cs.drop f0.offset).take (Try.prog.cellsOf f0.type)) = some y0 ∧
      DataW.trod enc Try.prog w base spare held n f1.type ((cs.drop f1.offset).take (Try.prog.cellsOf f1.type)) = some y1 ∧ DataW.trod enc Try.prog w base spare held n f2.type ((cs.drop f2.offset).take (Try.prog.cellsOf f2.type)) = some y2 ∧
      DataW.trod enc Try.prog w base spare held n f3.type ((cs.drop f3.offset).take (Try.prog.cellsOf f3.type)) = some y3 ∧ DataW.trod enc Try.prog w base spare held n f4.type ((cs.drop f4.offset).take (Try.prog.cellsOf f4.type)) = some y4 := by
  obtain ⟨xs, n, _, rfl, hl, hlen, hf⟩ := DataW.trod_struct ht h
  match xs, hlen with
  | [y0, y1, y2, y3, y4], _ => exact ⟨y0, y1, y2, y3, y4, n, hl, by simpa using hf 0 f0 rfl, by simpa using hf 1 f1 rfl, by simpa using hf 2 f2 rfl, by simpa using hf 3 f3 rfl, by simpa using hf 4 f4 rfl⟩
set_option maxRecDepth 100000 in
theorem open_nd {H : Type} {enc : TypeId × Value → H} {w : World} {base : Nat} {spare : Nat → Bool} {held : Bool} {fuel : Nat} {cs : List Value} {x : DataW H × List MemPlace} (h : DataW.trod enc Try.prog w base spare held fuel 57 cs = some x) : ∃ x0 x1 x2 x3 x4 : Int, cs = [.int .i64 x0, .int .i64 x1, .int .i64 x2, .int .i64 x3, .int .i64 x4] := by
  obtain ⟨y0, y1, y2, y3, y4, n', hl, h0, h1, h2, h3, h4⟩ := trod_struct5 Try.underlying57 h
  obtain ⟨x0, e0, _, _⟩ := DataW.trod_int Try.underlying3 h0
  obtain ⟨x1, e1, _, _⟩ := DataW.trod_int Try.underlying3 h1
  obtain ⟨x2, e2, _, _⟩ := DataW.trod_int Try.underlying3 h2
  obtain ⟨x3, e3, _, _⟩ := DataW.trod_int Try.underlying3 h3
  obtain ⟨x4, e4, _, _⟩ := DataW.trod_int Try.underlying3 h4
  have hc : Try.prog.cellsOf 57 = 5 := by kernel_rfl
  have hi : Try.prog.cellsOf 3 = 1 := by kernel_rfl
  have hl := hl.trans hc
  dsimp only at e0 e1 e2 e3 e4
  rw [hi] at e0 e1 e2 e3 e4
  match cs, hl with
  | [a0, a1, a2, a3, a4], _ =>
    refine ⟨x0, x1, x2, x3, x4, ?_⟩
    simp at e0 e1 e2 e3 e4
    rw [e0, e1, e2, e3, e4]
set_option maxRecDepth 100000 in
theorem open_nds {H : Type} {enc : TypeId × Value → H} {w : World} {base : Nat} {spare : Nat → Bool} {held : Bool} {fuel : Nat} {a : Option Addr} {len cap : Nat} {x : DataW H × List MemPlace} (h : DataW.trod enc Try.prog w base spare held fuel 22 [.slice a len cap] = some x) : ∃ xs, NdIn w a len cap xs := by
  rcases open_slice Try.underlying22 h with ⟨hcs, _⟩ | ⟨ad, l, c, m, n', D, Pl, hcs, hb, hl, hm, hmm, hx, hi⟩
  · simp at hcs
    obtain ⟨rfl, rfl, rfl⟩ := hcs
    exact ⟨[], rfl, .inl rfl, Nat.le_refl _, Nat.zero_le _⟩
  · simp at hcs
    obtain ⟨rfl, rfl, rfl⟩ := hcs
    have hc : Try.prog.cellsOf 57 = 5 := by kernel_rfl
    have hmn : len ≤ m := by rw [hmm]; split <;> omega
    have each : ∀ i, i < len → ∃ z : Nd, w.cell? (ad.add (i * 5)) = some (.int .i64 z.1) ∧ w.cell? (ad.add (i * 5 + 1)) = some (.int .i64 z.2.1) ∧ w.cell? (ad.add (i * 5 + 2)) = some (.int .i64 z.2.2.1) ∧ w.cell? (ad.add (i * 5 + 3)) = some (.int .i64 z.2.2.2.1) ∧ w.cell? (ad.add (i * 5 + 4)) = some (.int .i64 z.2.2.2.2) := fun i hin => by
      obtain ⟨cs', h1, h2⟩ := hi i (by omega)
      obtain ⟨x0, x1, x2, x3, x4, rfl⟩ := open_nd h2
      rw [hc] at h1
      obtain ⟨_, _, hat⟩ := World.cells?_some h1
      have a0 := hat 0 (by omega)
      have a1 := hat 1 (by omega)
      have a2 := hat 2 (by omega)
      have a3 := hat 3 (by omega)
      have a4 := hat 4 (by omega)
      rw [add_add] at a0 a1 a2 a3 a4
      exact ⟨(x0, x1, x2, x3, x4), a0, a1, a2, a3, a4⟩
    obtain ⟨f, hf⟩ : ∃ f : Nat → Nd, ∀ i, i < len → w.cell? (ad.add (i * 5)) = some (.int .i64 (f i).1) ∧ w.cell? (ad.add (i * 5 + 1)) = some (.int .i64 (f i).2.1) ∧ w.cell? (ad.add (i * 5 + 2)) = some (.int .i64 (f i).2.2.1) ∧ w.cell? (ad.add (i * 5 + 3)) = some (.int .i64 (f i).2.2.2.1) ∧ w.cell? (ad.add (i * 5 + 4)) = some (.int .i64 (f i).2.2.2.2) :=
      ⟨fun i => if hh : i < len then Classical.choose (each i hh) else nd0, fun i hh => by simp only [dif_pos hh]; exact Classical.choose_spec (each i hh)⟩
    refine ⟨(List.range len).map f, by simp, ?_, hl, hm⟩
    by_cases h0 : len = 0
    · subst h0; exact .inl rfl
    · obtain ⟨b, off, spot⟩ := ad
      have hsp := (hf 0 (by omega)).1
      have hspot : spot = none := by simpa [Addr.add] using World.cell?_spot hsp
      subst hspot
      refine .inr ⟨b, off, rfl, fun i hin => ?_⟩
      have hin' : i < len := by simpa using hin
      have e : ((List.range len).map f).getD i nd0 = f i := by
        rw [List.getD_eq_getElem?_getD, List.getElem?_map, List.getElem?_range hin']; rfl
      obtain ⟨q0, q1, q2, q3, q4⟩ := hf i hin'
      rw [add_off] at q0 q1 q2 q3 q4
      rw [e]
      exact ⟨q0, by rw [Nat.add_assoc]; exact q1, by rw [Nat.add_assoc]; exact q2, by rw [Nat.add_assoc]; exact q3, by rw [Nat.add_assoc]; exact q4⟩
end Go.Proofs.Ytigapnbpgbfbhaa
namespace Go.Proofs.Ytigapnbpgbfbhaa

/-- the measures of a node -/
def mB (x : Nd) : Bool := (decide (0 ≤ x.2.1) && decide (x.2.1 ≤ 1000)) && (decide (0 ≤ x.2.2.1) && decide (x.2.2.1 ≤ 500)) && (decide (0 ≤ x.2.2.2.1) && decide (x.2.2.2.1 ≤ 500)) && (decide (0 ≤ x.2.2.2.2) && decide (x.2.2.2.2 ≤ 20))
/-- the parent of a node -/
def pB (p : Int) (k : Nat) : Bool := if k = 0 then decide (p = -1) else decide (0 ≤ p) && decide (p < (k : Int))
def okN (ns : List Nd) (k : Nat) : Bool := pB (ns.getD k nd0).1 k && mB (ns.getD k nd0)
/-- a valid channel -/
def vnB (ns : List Nd) : Bool := decide (1 ≤ ns.length) && decide (ns.length ≤ 12) && (List.range ns.length).all (okN ns)
theorem mB_iff (x : Nd) : mB x = true ↔ (0 ≤ x.2.1 ∧ x.2.1 ≤ 1000) ∧ (0 ≤ x.2.2.1 ∧ x.2.2.1 ≤ 500) ∧ (0 ≤ x.2.2.2.1 ∧ x.2.2.2.1 ≤ 500) ∧ (0 ≤ x.2.2.2.2 ∧ x.2.2.2.2 ≤ 20) := by
  unfold mB; simp only [Bool.and_eq_true, decide_eq_true_eq, and_assoc]
theorem pB_zero (p : Int) : pB p 0 = decide (p = -1) := rfl
theorem pB_pos (p : Int) {k : Nat} (h : 0 < k) : pB p k = (decide (0 ≤ p) && decide (p < (k : Int))) := by unfold pB; rw [if_neg (by omega)]
theorem vn_no0 {ns : List Nd} (h : ns.length < 1) : vnB ns = false := by unfold vnB; rw [decide_eq_false (by omega : ¬ 1 ≤ ns.length)]; rfl
theorem vn_no1 {ns : List Nd} (h : 12 < ns.length) : vnB ns = false := by unfold vnB; rw [decide_eq_false (by omega : ¬ ns.length ≤ 12)]; simp
theorem vn_no2 {ns : List Nd} {k : Nat} (hk : k < ns.length) (h : okN ns k = false) : vnB ns = false := by unfold vnB; rw [rng_no hk h]; simp
theorem vn_end {ns : List Nd} (h3 : ∀ j, j < ns.length → okN ns j = true) : vnB ns = (decide (1 ≤ (ns.length : Int)) && decide ((ns.length : Int) ≤ 12)) := by
  unfold vnB; rw [rng_yes h3, Bool.and_true]
  congr 1
  · by_cases h : 1 ≤ ns.length
    · rw [decide_eq_true h, decide_eq_true (by omega)]
    · rw [decide_eq_false h, decide_eq_false (by omega)]
  · by_cases h : ns.length ≤ 12
    · rw [decide_eq_true h, decide_eq_true (by omega)]
    · rw [decide_eq_false h, decide_eq_false (by omega)]
theorem vn_yes {ns : List Nd} (h1 : 1 ≤ ns.length) (h2 : ns.length ≤ 12) (h3 : ∀ j, j < ns.length → okN ns j = true) : vnB ns = true := by
  rw [vn_end h3, decide_eq_true (by omega), decide_eq_true (by omega)]; rfl
theorem vn_is {ns : List Nd} (h : vnB ns = true) : 1 ≤ ns.length ∧ ns.length ≤ 12 ∧ ∀ j, j < ns.length → okN ns j = true := by
  unfold vnB at h
  simp only [Bool.and_eq_true, decide_eq_true_eq, rng_all] at h
  exact ⟨h.1.1, h.1.2, h.2⟩
/-- what holds of a node of a valid channel -/
theorem vn_at {ns : List Nd} (h : vnB ns = true) {k : Nat} (hk : k < ns.length) :
    (0 ≤ (ns.getD k nd0).2.1 ∧ (ns.getD k nd0).2.1 ≤ 1000) ∧ (0 ≤ (ns.getD k nd0).2.2.1 ∧ (ns.getD k nd0).2.2.1 ≤ 500) ∧ (0 ≤ (ns.getD k nd0).2.2.2.1 ∧ (ns.getD k nd0).2.2.2.1 ≤ 500) ∧ (0 ≤ (ns.getD k nd0).2.2.2.2 ∧ (ns.getD k nd0).2.2.2.2 ≤ 20) := by
  have := (vn_is h).2.2 k hk
  unfold okN at this
  rw [Bool.and_eq_true] at this
  exact (mB_iff _).1 this.2
theorem vn_par0 {ns : List Nd} (h : vnB ns = true) : (ns.getD 0 nd0).1 = -1 := by
  have := (vn_is h).2.2 0 (vn_is h).1
  unfold okN at this
  rw [Bool.and_eq_true, pB_zero, decide_eq_true_eq] at this
  exact this.1
theorem vn_par {ns : List Nd} (h : vnB ns = true) {k : Nat} (hk : k < ns.length) (h0 : 0 < k) : 0 ≤ (ns.getD k nd0).1 ∧ (ns.getD k nd0).1 < (k : Int) := by
  have := (vn_is h).2.2 k hk
  unfold okN at this
  rw [Bool.and_eq_true, pB_pos _ h0, Bool.and_eq_true, decide_eq_true_eq, decide_eq_true_eq] at this
  exact this.1
theorem vn_parI {ns : List Nd} (h : vnB ns = true) {k : Nat} (hk : k < ns.length) : -1 ≤ (ns.getD k nd0).1 ∧ (ns.getD k nd0).1 < (k : Int) := by
  by_cases h0 : 0 < k
  · have := vn_par h hk h0; omega
  · obtain rfl : k = 0 := by omega
    rw [vn_par0 h]; constructor <;> omega

/-- an index -/
def inN (n : Nat) (i : Int) : Bool := decide (0 ≤ i) && decide (i < (n : Int))
theorem inN_yes {n : Nat} {i : Int} (h : inN n i = true) : ∃ k : Nat, i = (k : Int) ∧ k < n := by
  unfold inN at h
  simp only [Bool.and_eq_true, decide_eq_true_eq] at h
  exact ⟨i.toNat, by omega, by omega⟩
theorem inN_no {n : Nat} {i : Int} (h : inN n i = false) : i < 0 ∨ (n : Int) - 1 < i := by
  have : ¬ (0 ≤ i ∧ i < (n : Int)) := fun c => by unfold inN at h; rw [decide_eq_true c.1, decide_eq_true c.2] at h; cases h
  omega
theorem inN_is {n k : Nat} (h : k < n) : inN n (k : Int) = true := by
  unfold inN; rw [decide_eq_true (by omega), decide_eq_true (by omega)]; rfl

/-- the kids of a node among the first k nodes -/
def kidsTo (ns : List Nd) (at_ : Int) : Nat → List Int
  | 0 => []
  | k + 1 => if (ns.getD k nd0).1 = at_ then kidsTo ns at_ k ++ [(k : Int)] else kidsTo ns at_ k
theorem kidsTo_yes {ns : List Nd} {at_ : Int} {k : Nat} (h : (ns.getD k nd0).1 = at_) : kidsTo ns at_ (k + 1) = kidsTo ns at_ k ++ [(k : Int)] := if_pos h
theorem kidsTo_no {ns : List Nd} {at_ : Int} {k : Nat} (h : ¬ (ns.getD k nd0).1 = at_) : kidsTo ns at_ (k + 1) = kidsTo ns at_ k := if_neg h
theorem kidsTo_len (ns : List Nd) (at_ : Int) : ∀ k, (kidsTo ns at_ k).length ≤ k := by
  intro k
  induction k with
  | zero => exact Nat.le_refl _
  | succ k ih =>
    by_cases h : (ns.getD k nd0).1 = at_
    · rw [kidsTo_yes h, List.length_append]; show _ + 1 ≤ _; omega
    · rw [kidsTo_no h]; omega
def kidsF (ns : List Nd) (at_ : Int) : List Int := kidsTo ns at_ ns.length
/-- what KidsOf gives -/
def kidsV (ns : List Nd) (at_ : Int) : List Int := if (vnB ns && inN ns.length at_) = true then kidsF ns at_ else []
theorem kids_no {ns : List Nd} {at_ : Int} (h : vnB ns = false ∨ inN ns.length at_ = false) : kidsV ns at_ = [] := by
  unfold kidsV; rw [if_neg]; rcases h with h | h <;> rw [h] <;> simp
theorem kids_yes {ns : List Nd} {at_ : Int} (h : vnB ns = true) (h2 : inN ns.length at_ = true) : kidsV ns at_ = kidsF ns at_ := by
  unfold kidsV; rw [h, h2]; rfl
theorem kidsTo_mem (ns : List Nd) (at_ : Int) : ∀ k, ∀ z ∈ kidsTo ns at_ k, ∃ j : Nat, z = (j : Int) ∧ j < k ∧ (ns.getD j nd0).1 = at_ := by
  intro k
  induction k with
  | zero => intro z h; cases h
  | succ k ih =>
    intro z hz
    by_cases h : (ns.getD k nd0).1 = at_
    · rw [kidsTo_yes h, List.mem_append, List.mem_singleton] at hz
      rcases hz with hz | rfl
      · obtain ⟨j, a, b, c⟩ := ih z hz; exact ⟨j, a, by omega, c⟩
      · exact ⟨k, rfl, by omega, h⟩
    · rw [kidsTo_no h] at hz
      obtain ⟨j, a, b, c⟩ := ih z hz; exact ⟨j, a, by omega, c⟩
theorem kidsTo_in {ns : List Nd} {at_ : Int} {j : Nat} (h : (ns.getD j nd0).1 = at_) : ∀ k, j < k → (j : Int) ∈ kidsTo ns at_ k := by
  intro k
  induction k with
  | zero => intro h; omega
  | succ k ih =>
    intro hk
    by_cases e : j = k
    · subst e; rw [kidsTo_yes h]; exact List.mem_append_right _ (List.mem_singleton.2 rfl)
    · have := ih (by omega)
      by_cases h2 : (ns.getD k nd0).1 = at_
      · rw [kidsTo_yes h2]; exact List.mem_append_left _ this
      · rw [kidsTo_no h2]; exact this
theorem kids_bd {ns : List Nd} {at_ : Int} {z : Int} (h : z ∈ kidsF ns at_) : ∃ j : Nat, z = (j : Int) ∧ j < ns.length ∧ (ns.getD j nd0).1 = at_ := kidsTo_mem ns at_ _ z h

/-- the path to a node, the node behind its parent's path -/
def pathTo (ns : List Nd) : Nat → Int → List Int
  | 0, _ => []
  | f + 1, i => if i < 0 then [] else pathTo ns f (ns.getD i.toNat nd0).1 ++ [i]
theorem pathTo_more {ns : List Nd} (h : vnB ns = true) : ∀ (f : Nat) (i : Int), i < (ns.length : Int) → i < (f : Int) → pathTo ns (f + 1) i = pathTo ns f i := by
  intro f
  induction f with
  | zero => intro i _ hi; have : i < 0 := by omega
            show (if i < 0 then [] else _) = []; rw [if_pos this]
  | succ f ih =>
    intro i hi hf
    by_cases h0 : i < 0
    · show (if i < 0 then [] else _) = (if i < 0 then [] else _); rw [if_pos h0, if_pos h0]
    · show (if i < 0 then [] else pathTo ns (f + 1) (ns.getD i.toNat nd0).1 ++ [i]) = (if i < 0 then [] else pathTo ns f (ns.getD i.toNat nd0).1 ++ [i])
      have b := vn_parI h (k := i.toNat) (by omega)
      rw [if_neg h0, if_neg h0, ih _ (by omega) (by omega)]
def pathF (ns : List Nd) (i : Int) : List Int := pathTo ns ns.length i
theorem pathTo_step {ns : List Nd} (h : vnB ns = true) {k : Nat} (hk : k < ns.length) : pathF ns (k : Int) = pathF ns (ns.getD k nd0).1 ++ [(k : Int)] := by
  have b := vn_parI h hk
  obtain ⟨m, hm⟩ : ∃ m, ns.length = m + 1 := ⟨ns.length - 1, by omega⟩
  unfold pathF
  rw [hm]
  show (if (k : Int) < 0 then [] else pathTo ns m (ns.getD ((k : Int)).toNat nd0).1 ++ [(k : Int)]) = _
  rw [if_neg (by omega), show ((k : Int)).toNat = k from by omega, pathTo_more h m _ (by omega) (by omega)]
theorem pathF_neg (ns : List Nd) {i : Int} (h : i < 0) : pathF ns i = [] := by
  unfold pathF
  cases ns.length with
  | zero => rfl
  | succ m => show (if i < 0 then [] else _) = []; rw [if_pos h]
theorem pathTo_len (ns : List Nd) : ∀ (f : Nat) (i : Int), (pathTo ns f i).length ≤ f := by
  intro f
  induction f with
  | zero => intro i; exact Nat.le_refl _
  | succ f ih =>
    intro i
    show (if i < 0 then [] else pathTo ns f (ns.getD i.toNat nd0).1 ++ [i]).length ≤ _
    split
    · simp
    · rw [List.length_append]; have := ih (ns.getD i.toNat nd0).1; show _ + 1 ≤ _; omega
theorem pathTo_mem {ns : List Nd} (h : vnB ns = true) : ∀ (f : Nat) (i : Int), i < (ns.length : Int) → ∀ z ∈ pathTo ns f i, ∃ j : Nat, z = (j : Int) ∧ j < ns.length := by
  intro f
  induction f with
  | zero => intro i _ z hz; cases hz
  | succ f ih =>
    intro i hi z hz
    by_cases h0 : i < 0
    · have : pathTo ns (f + 1) i = [] := if_pos h0
      rw [this] at hz; cases hz
    · have : pathTo ns (f + 1) i = pathTo ns f (ns.getD i.toNat nd0).1 ++ [i] := if_neg h0
      rw [this, List.mem_append, List.mem_singleton] at hz
      have b := vn_parI h (k := i.toNat) (by omega)
      rcases hz with hz | rfl
      · exact ih _ (by omega) z hz
      · exact ⟨z.toNat, by omega, by omega⟩
def pathV (ns : List Nd) (at_ : Int) : List Int := if (vnB ns && inN ns.length at_) = true then pathF ns at_ else []
theorem path_no {ns : List Nd} {at_ : Int} (h : vnB ns = false ∨ inN ns.length at_ = false) : pathV ns at_ = [] := by
  unfold pathV; rw [if_neg]; rcases h with h | h <;> rw [h] <;> simp
theorem path_yes {ns : List Nd} {at_ : Int} (h : vnB ns = true) (h2 : inN ns.length at_ = true) : pathV ns at_ = pathF ns at_ := by
  unfold pathV; rw [h, h2]; rfl
/-- the delays of nodes -/
def dly (ns : List Nd) (z : Int) : Int := (ns.getD z.toNat nd0).2.2.2.2
def dlySum (ns : List Nd) : List Int → Int
  | [] => 0
  | z :: t => dly ns z + dlySum ns t
theorem dlySum_append (ns : List Nd) (a b : List Int) : dlySum ns (a ++ b) = dlySum ns a + dlySum ns b := by
  induction a with
  | nil => show dlySum ns b = 0 + dlySum ns b; omega
  | cons h t ih => show dly ns h + dlySum ns (t ++ b) = dly ns h + dlySum ns t + _; rw [ih]; omega
theorem dlySum_bd {ns : List Nd} (h : vnB ns = true) : ∀ l : List Int, (∀ z ∈ l, ∃ j : Nat, z = (j : Int) ∧ j < ns.length) → 0 ≤ dlySum ns l ∧ dlySum ns l ≤ 20 * (l.length : Int) := by
  intro l
  induction l with
  | nil => intro _; exact ⟨Int.le_refl _, by show (0 : Int) ≤ 20 * ((0 : Nat) : Int); omega⟩
  | cons z t ih =>
    intro hz
    obtain ⟨a, b⟩ := ih (fun y hy => hz y (List.mem_cons_of_mem _ hy))
    obtain ⟨j, rfl, hj⟩ := hz z (List.mem_cons_self ..)
    have c := (vn_at h hj).2.2.2
    have e : dly ns (j : Int) = (ns.getD j nd0).2.2.2.2 := rfl
    show 0 ≤ dly ns (j : Int) + dlySum ns t ∧ dly ns (j : Int) + dlySum ns t ≤ 20 * ((t.length + 1 : Nat) : Int)
    rw [e]; omega
def delayF (ns : List Nd) (at_ : Int) : Int := dlySum ns (pathF ns at_)
def delayV (ns : List Nd) (at_ : Int) : Int := if (vnB ns && inN ns.length at_) = true then delayF ns at_ else -1
theorem delay_no {ns : List Nd} {at_ : Int} (h : vnB ns = false ∨ inN ns.length at_ = false) : delayV ns at_ = -1 := by
  unfold delayV; rw [if_neg]; rcases h with h | h <;> rw [h] <;> simp
theorem delay_yes {ns : List Nd} {at_ : Int} (h : vnB ns = true) (h2 : inN ns.length at_ = true) : delayV ns at_ = delayF ns at_ := by
  unfold delayV; rw [h, h2]; rfl
theorem delay_bd {ns : List Nd} (h : vnB ns = true) {k : Nat} (hk : k < ns.length) : 0 ≤ delayF ns (k : Int) ∧ delayF ns (k : Int) ≤ 240 := by
  have a := dlySum_bd h _ (pathTo_mem h ns.length (k : Int) (by omega))
  have b := pathTo_len ns ns.length (k : Int)
  have c := (vn_is h).2.1
  unfold delayF pathF; omega
/-- the nodes without kids among the first k -/
def leavesTo (ns : List Nd) : Nat → List Int
  | 0 => []
  | k + 1 => if (kidsF ns (k : Int)).length = 0 then leavesTo ns k ++ [(k : Int)] else leavesTo ns k
theorem leavesTo_yes {ns : List Nd} {k : Nat} (h : (kidsF ns (k : Int)).length = 0) : leavesTo ns (k + 1) = leavesTo ns k ++ [(k : Int)] := if_pos h
theorem leavesTo_no {ns : List Nd} {k : Nat} (h : ¬ (kidsF ns (k : Int)).length = 0) : leavesTo ns (k + 1) = leavesTo ns k := if_neg h
theorem leavesTo_len (ns : List Nd) : ∀ k, (leavesTo ns k).length ≤ k := by
  intro k
  induction k with
  | zero => exact Nat.le_refl _
  | succ k ih =>
    by_cases h : (kidsF ns (k : Int)).length = 0
    · rw [leavesTo_yes h, List.length_append]; show _ + 1 ≤ _; omega
    · rw [leavesTo_no h]; omega
def leavesV (ns : List Nd) : List Int := if vnB ns = true then leavesTo ns ns.length else []
end Go.Proofs.Ytigapnbpgbfbhaa
namespace Go.Proofs.Ytigapnbpgbfbhaa
open Go.RowKit
set_option linter.unusedSimpArgs false
set_option linter.unusedVariables false

/-- impl.isWithin, as a number -/
theorem iwithin (n m : Int) (w : World) :
    Calls Try.prog 50 #[.int .i64 n, .int .i64 m] w fun e w' => e = .returned (.bool (decide (0 ≤ n) && decide (n ≤ m))) ∧ w = w' := by
  by_cases h : n < 0 ∨ m < n
  · have e : (decide (0 ≤ n) && decide (n ≤ m)) = false := by
      rcases h with h | h
      · rw [decide_eq_false (by omega : ¬ 0 ≤ n)]; rfl
      · rw [decide_eq_false (by omega : ¬ n ≤ m)]; simp
    rw [e]; exact iwithin_no n m w h
  · rw [decide_eq_true (by omega : 0 ≤ n), decide_eq_true (by omega : n ≤ m)]; exact iwithin_yes n m w (by omega) (by omega)
/-- impl.isNode -/
theorem iisNode (a : Option Addr) (n cap : Nat) (i : Int) (w : World) (hn : n ≤ 1048576) :
    Calls Try.prog 62 #[.slice a n cap, .int .i64 i] w fun e w' => e = .returned (.bool (inN n i)) ∧ w = w' := by
  by_cases h1 : 0 ≤ i
  · have hd : decide (0 ≤ i) = true := decide_eq_true h1
    clear h1
    go_enter Try.func62, Try.ntmps62
    go_wp2
    go_ret
    exact ⟨ret_bool (by unfold inN; rw [hd]; rfl), rfl⟩
  · have hd : decide (0 ≤ i) = false := decide_eq_false h1
    clear h1
    go_enter Try.func62, Try.ntmps62
    go_wp2
    go_ret
    exact ⟨ret_bool (by unfold inN; rw [hd]; rfl), rfl⟩

set_option maxHeartbeats 1000000 in
/-- impl.hasMeasures -/
theorem imeasures (x0 x1 x2 x3 x4 : Int) (w : World) :
    Calls Try.prog 63 #[.agg #[.int .i64 x0, .int .i64 x1, .int .i64 x2, .int .i64 x3, .int .i64 x4]] w fun e w' => e = .returned (.bool (mB (x0, x1, x2, x3, x4))) ∧ Below w.heap.size w w' := by
  obtain ⟨b1, h1⟩ : ∃ b, (decide (0 ≤ x1) && decide (x1 ≤ 1000)) = b := ⟨_, rfl⟩
  obtain ⟨b2, h2⟩ : ∃ b, (decide (0 ≤ x2) && decide (x2 ≤ 500)) = b := ⟨_, rfl⟩
  obtain ⟨b3, h3⟩ : ∃ b, (decide (0 ≤ x3) && decide (x3 ≤ 500)) = b := ⟨_, rfl⟩
  obtain ⟨b4, h4⟩ : ∃ b, (decide (0 ≤ x4) && decide (x4 ≤ 20)) = b := ⟨_, rfl⟩
  have HM : Hid (mB (x0, x1, x2, x3, x4) = (b1 && b2 && b3 && b4)) := by show mB _ = _; rw [← h1, ← h2, ← h3, ← h4]; rfl
  have C1 := fun W => iwithin x1 1000 W
  have C2 := fun W => iwithin x2 500 W
  have C3 := fun W => iwithin x3 500 W
  have C4 := fun W => iwithin x4 20 W
  rw [h1] at C1
  rw [h2] at C2
  rw [h3] at C3
  rw [h4] at C4
  clear h1 h2 h3 h4
  cases b1 with
  | false =>
    go_enter Try.func63, Try.ntmps63
    go_wp2_with fail
    refine (C1 _).mono ?_
    rintro e w' ⟨rfl, rfl⟩
    go_wp2_with fail
    go_ret
    exact ⟨ret_bool (by rw [HM.out]; simp), by go_grown⟩
  | true =>
    cases b2 with
    | false =>
      go_enter Try.func63, Try.ntmps63
      go_wp2_with fail
      refine (C1 _).mono ?_
      rintro e w' ⟨rfl, rfl⟩
      go_wp2_with fail
      refine (C2 _).mono ?_
      rintro e w' ⟨rfl, rfl⟩
      go_wp2_with fail
      go_ret
      exact ⟨ret_bool (by rw [HM.out]; simp), by go_grown⟩
    | true =>
      cases b3 with
      | false =>
        go_enter Try.func63, Try.ntmps63
        go_wp2_with fail
        refine (C1 _).mono ?_
        rintro e w' ⟨rfl, rfl⟩
        go_wp2_with fail
        refine (C2 _).mono ?_
        rintro e w' ⟨rfl, rfl⟩
        go_wp2_with fail
        refine (C3 _).mono ?_
        rintro e w' ⟨rfl, rfl⟩
        go_wp2_with fail
        go_ret
        exact ⟨ret_bool (by rw [HM.out]; simp), by go_grown⟩
      | true =>
        cases b4 with
        | false =>
          go_enter Try.func63, Try.ntmps63
          go_wp2_with fail
          refine (C1 _).mono ?_
          rintro e w' ⟨rfl, rfl⟩
          go_wp2_with fail
          refine (C2 _).mono ?_
          rintro e w' ⟨rfl, rfl⟩
          go_wp2_with fail
          refine (C3 _).mono ?_
          rintro e w' ⟨rfl, rfl⟩
          go_wp2_with fail
          refine (C4 _).mono ?_
          rintro e w' ⟨rfl, rfl⟩
          go_wp2_with fail
          go_ret
          exact ⟨ret_bool (by rw [HM.out]; simp), by go_grown⟩
        | true =>
          go_enter Try.func63, Try.ntmps63
          go_wp2_with fail
          refine (C1 _).mono ?_
          rintro e w' ⟨rfl, rfl⟩
          go_wp2_with fail
          refine (C2 _).mono ?_
          rintro e w' ⟨rfl, rfl⟩
          go_wp2_with fail
          refine (C3 _).mono ?_
          rintro e w' ⟨rfl, rfl⟩
          go_wp2_with fail
          refine (C4 _).mono ?_
          rintro e w' ⟨rfl, rfl⟩
          go_wp2_with fail
          go_ret
          exact ⟨ret_bool (by rw [HM.out]; simp), by go_grown⟩

theorem ok_first {ns : List Nd} (h : ¬ (ns.getD 0 nd0).1 = -1) : okN ns 0 = false := by
  unfold okN; rw [pB_zero, decide_eq_false h]; rfl
set_option maxHeartbeats 4000000 in
/-- impl.ValidNodes -/
theorem iVN (a : Option Addr) (cap : Nat) (ns : List Nd) (w : World) (h : IsNd w a ns) (hn : ns.length ≤ 1048576) (hcap : ns.length ≤ cap) :
    Calls Try.prog 37 #[.slice a ns.length cap] w fun e w' => e = .returned (.bool (vnB ns)) ∧ Below w.heap.size w w' := by
  by_cases h0 : ns.length < 1
  · have e0 : decide ((ns.length : Int) < 1) = true := by simp; omega
    have HN := Lib.hid (vn_no0 h0)
    clear h0
    go_enter Try.func37, Try.ntmps37
    go_wp2_with fail
    go_ret
    exact ⟨ret_bool HN.out.symm, by go_grown⟩
  have e0 : decide ((ns.length : Int) < 1) = false := by simp; omega
  by_cases h24 : 12 < ns.length
  · have e1 : decide (12 < (ns.length : Int)) = true := by simp; omega
    have HN := Lib.hid (vn_no1 h24)
    clear h24 h0
    go_enter Try.func37, Try.ntmps37
    go_wp2_with fail
    go_ret
    exact ⟨ret_bool HN.out.symm, by go_grown⟩
  have e1 : decide (12 < (ns.length : Int)) = false := by simp; omega
  rcases h with rfl | ⟨g, o, rfl, hc⟩
  · exact absurd (by simp) h0
  have HC := Lib.hid hc
  have l0 : (0 : Int) < (ns.length : Int) := by omega
  have l1 : 1 ≤ ns.length := by omega
  have l12 : ns.length ≤ 12 := by omega
  have c00 := (hc 0 (by omega)).1
  rw [show o + 0 * 5 = o from by omega] at c00
  have hfirst := fun e => vn_no2 (ns := ns) (k := 0) (by omega) (ok_first e)
  have hf0 : ∀ p, (ns.getD 0 nd0).1 = p → p = -1 → pB p 0 = true := fun p _ e => by rw [pB_zero]; exact decide_eq_true e
  by_cases hp : (ns.getD 0 nd0).1 = -1
  rotate_left
  · have HF := Lib.hid (hfirst hp)
    have ep : ((ns.getD 0 nd0).1 == -1) = false := by simpa using hp
    generalize (ns.getD 0 nd0).1 = p at c00 ep
    clear hc hp h0 h24 hfirst hf0
    go_enter Try.func37, Try.ntmps37
    go_wp2_with fail
    go_ret
    exact ⟨ret_bool HF.out.symm, by go_grown⟩
  rw [hp] at c00
  clear hc h0 h24 hfirst hf0
  have HP := Lib.hid hp
  clear hp
  go_enter Try.func37, Try.ntmps37
  go_wp2_with fail
  go_loopw [22] (fun i wr => ∃ k : Nat, k ≤ ns.length ∧ i = .int .i64 k ∧ Hid (∀ j, j < k → okN ns j = true) ∧ Below w.heap.size w wr) (fun i _ => ns.length - (intOf i).toNat)
  case atStart => exact ⟨0, Nat.zero_le _, rfl, fun j hj => by omega, by go_grown⟩
  case round =>
    obtain ⟨k, hk, rfl, HA, hB⟩ := hrel
    by_cases hlt : k < ns.length
    · obtain ⟨c0, c1, c2, c3, c4⟩ := nd_at HC.out hB hlt
      obtain ⟨q, hq⟩ : ∃ q, mB (ns.getD k nd0) = q := ⟨_, rfl⟩
      have hk0 : k = 0 → (ns.getD k nd0).1 = -1 := fun e => by subst e; exact HP.out
      have hno : (pB (ns.getD k nd0).1 k = false ∨ q = false) → vnB ns = false := fun e => vn_no2 hlt (by unfold okN; rcases e with e | e <;> rw [hq, e] <;> simp)
      have hyes : pB (ns.getD k nd0).1 k = true → q = true → ∀ j, j < k + 1 → okN ns j = true := fun e1 e2 => rng_more HA.out (by unfold okN; rw [hq, e1, e2]; rfl)
      have CM := fun W => imeasures (ns.getD k nd0).1 (ns.getD k nd0).2.1 (ns.getD k nd0).2.2.1 (ns.getD k nd0).2.2.2.1 (ns.getD k nd0).2.2.2.2 W
      have hq' : mB ((ns.getD k nd0).1, (ns.getD k nd0).2.1, (ns.getD k nd0).2.2.1, (ns.getD k nd0).2.2.2.1, (ns.getD k nd0).2.2.2.2) = q := hq
      rw [hq'] at CM
      clear hq hq'
      generalize (ns.getD k nd0).1 = x0 at c0 hno hyes CM hk0
      generalize (ns.getD k nd0).2.1 = x1 at c1 CM
      generalize (ns.getD k nd0).2.2.1 = x2 at c2 CM
      generalize (ns.getD k nd0).2.2.2.1 = x3 at c3 CM
      generalize (ns.getD k nd0).2.2.2.2 = x4 at c4 CM
      have HN := Lib.hid hno
      have HY := Lib.hid hyes
      have HB := Lib.hid hB
      have kb0 : (0 : Int) ≤ (k : Int) := by omega
      have kb1 : (k : Int) ≤ (cap : Int) := by omega
      have kb2 : (k : Int) < (ns.length : Int) := by omega
      clear hno hyes hB
      by_cases k0 : k = 0
      · have d0 : decide (0 < (k : Int)) = false := decide_eq_false (by omega)
        have d1 : decide (0 < k) = false := decide_eq_false (by omega)
        have HP2 : Hid (pB x0 k = true) := by show pB x0 k = true; rw [hk0 k0, k0]; rfl
        clear hk0 k0
        cases q with
        | false =>
          have HV := Lib.hid (HN.out (.inr rfl))
          go_wp2_with fail
          go_quiet (fail)
          go_wp2_with fail
          refine (CM _).mono ?_
          rintro e w1 ⟨rfl, C⟩
          go_wp2_with fail
          go_ret
          exact ⟨ret_bool HV.out.symm, bel_tr (below_drewN (HB.out.alloc HB.out.size _) _) C⟩
        | true =>
          have HV := Lib.hid (HY.out HP2.out rfl)
          go_wp2_with fail
          go_quiet (fail)
          go_wp2_with fail
          refine (CM _).mono ?_
          rintro e w1 ⟨rfl, C⟩
          go_wp2_with fail
          go_roundw
          case rel => exact ⟨k + 1, by omega, by go_num, HV.out, bel_tr (below_drewN (HB.out.alloc HB.out.size _) _) C⟩
          case measure => simp [intOf]; omega
      · have d0 : decide (0 < (k : Int)) = true := decide_eq_true (by omega)
        have d1 : decide (0 < k) = true := decide_eq_true (by omega)
        have hpb : pB x0 k = inN k x0 := by rw [pB_pos _ (by omega)]; rfl
        have CI := fun W => iisNode (some ⟨g, o, none⟩) k cap x0 W (by omega)
        obtain ⟨t, ht⟩ : ∃ t, inN k x0 = t := ⟨_, rfl⟩
        rw [ht] at CI hpb
        have HP2 := Lib.hid hpb
        have KI := Lib.hid (fun (W : World) (j : Nat) => Calls.quiet_of_same (w := W) (n := j) ((CI _).mono (fun _ _ h => ⟨h.1, h.2.symm⟩)))
        clear hk0 k0 hpb ht CI
        cases t with
        | false =>
          have HV := Lib.hid (HN.out (.inl HP2.out))
          go_wp2_with fail
          go_quiet (first | (go_at_call_of 62 (Value.slice (some ⟨g, o, none⟩) k cap); exact KI.out _ _))
          go_wp2_with fail
          go_ret
          exact ⟨ret_bool HV.out.symm, below_drewN (HB.out.alloc HB.out.size _) _⟩
        | true =>
          cases q with
          | false =>
            have HV := Lib.hid (HN.out (.inr rfl))
            go_wp2_with fail
            go_quiet (first | (go_at_call_of 62 (Value.slice (some ⟨g, o, none⟩) k cap); exact KI.out _ _))
            go_wp2_with fail
            refine (CM _).mono ?_
            rintro e w1 ⟨rfl, C⟩
            go_wp2_with fail
            go_ret
            exact ⟨ret_bool HV.out.symm, bel_tr (below_drewN (HB.out.alloc HB.out.size _) _) C⟩
          | true =>
            have HV := Lib.hid (HY.out HP2.out rfl)
            go_wp2_with fail
            go_quiet (first | (go_at_call_of 62 (Value.slice (some ⟨g, o, none⟩) k cap); exact KI.out _ _))
            go_wp2_with fail
            refine (CM _).mono ?_
            rintro e w1 ⟨rfl, C⟩
            go_wp2_with fail
            go_roundw
            case rel => exact ⟨k + 1, by omega, by go_num, HV.out, bel_tr (below_drewN (HB.out.alloc HB.out.size _) _) C⟩
            case measure => simp [intOf]; omega
    · obtain rfl : k = ns.length := by omega
      have HE := Lib.hid (vn_yes l1 l12 HA.out)
      have HB := Lib.hid hB
      clear HA hB
      go_wp2_with fail
      go_ret
      exact ⟨ret_bool HE.out.symm, HB.out⟩
end Go.Proofs.Ytigapnbpgbfbhaa
namespace Go.Proofs.Ytigapnbpgbfbhaa
open Go.RowKit
set_option linter.unusedSimpArgs false
set_option linter.unusedVariables false
theorem sinRange (n l h : Int) (w : World) :
    Calls Try.prog 49 #[.int .i64 n, .int .i64 l, .int .i64 h] w fun e w' => e = .returned (.bool (decide (l ≤ n) && decide (n ≤ h))) ∧ w = w' := by
  by_cases c : n < l ∨ h < n
  · have e : (decide (l ≤ n) && decide (n ≤ h)) = false := by
      rcases c with c | c
      · rw [decide_eq_false (by omega : ¬ l ≤ n)]; rfl
      · rw [decide_eq_false (by omega : ¬ n ≤ h)]; simp
    rw [e]; exact inRange_no n l h w c
  · rw [decide_eq_true (by omega : l ≤ n), decide_eq_true (by omega : n ≤ h)]; exact inRange_yes n l h w (by omega) (by omega)
theorem inN_range (n : Nat) (i : Int) : (decide (0 ≤ i) && decide (i ≤ (n : Int) - 1)) = inN n i := by
  unfold inN
  by_cases h : i < (n : Int)
  · rw [decide_eq_true h, decide_eq_true (by omega : i ≤ (n : Int) - 1)]
  · rw [decide_eq_false h, decide_eq_false (by omega : ¬ i ≤ (n : Int) - 1)]
set_option maxHeartbeats 8000000 in
/-- spec.validNodes -/
theorem svn (a : Option Addr) (cap : Nat) (ns : List Nd) (w : World) (h : IsNd w a ns) (hn : ns.length ≤ 1048576) :
    Calls Try.prog 58 #[.slice a ns.length cap] w fun e w' => e = .returned (.bool (vnB ns)) ∧ Below w.heap.size w w' := by
  rcases h with rfl | ⟨g, o, rfl, hc⟩
  · go_enter Try.func58, Try.ntmps58
    go_wp2_with fail
    refine wp_loop_rounds 1 ?_
    rw [rounds_succ]
    go_wp2_with fail
    refine (inRange_no 0 1 12 _ (by omega)).mono ?_
    rintro e w' ⟨rfl, rfl⟩
    go_wp2_with fail
    go_ret
    exact ⟨rfl, by go_grown⟩
  have HC := Lib.hid hc
  have HP := Lib.hid (fun (k : Nat) (_ : k = 0) (p : Int) (e : ¬ p = -1) => (by rw [pB_zero]; exact decide_eq_false e : pB p 0 = false))
  clear hc
  go_enter Try.func58, Try.ntmps58
  go_wp2_with fail
  go_loopw [3] (fun i wr => ∃ k : Nat, k ≤ ns.length ∧ i = .int .i64 k ∧ Hid (∀ j, j < k → okN ns j = true) ∧ Below w.heap.size w wr) (fun i _ => ns.length - (intOf i).toNat)
  case atStart => exact ⟨0, Nat.zero_le _, rfl, fun j hj => by omega, by go_grown⟩
  case round =>
    obtain ⟨k, hk, rfl, HA, hB⟩ := hrel
    by_cases hlt : k < ns.length
    · obtain ⟨c0, c1, c2, c3, c4⟩ := nd_at HC.out hB hlt
      have hnp : pB (ns.getD k nd0).1 k = false → vnB ns = false := fun e => vn_no2 hlt (by unfold okN; rw [e]; rfl)
      have hnm : mB (ns.getD k nd0) = false → vnB ns = false := fun e => vn_no2 hlt (by unfold okN; rw [e]; simp)
      have hyes : pB (ns.getD k nd0).1 k = true → mB (ns.getD k nd0) = true → ∀ j, j < k + 1 → okN ns j = true := fun e1 e2 => rng_more HA.out (by unfold okN; rw [e1, e2]; rfl)
      generalize ns.getD k nd0 = nd at c0 c1 c2 c3 c4 hnp hnm hyes
      obtain ⟨x0, x1, x2, x3, x4⟩ := nd
      dsimp only at c0 c1 c2 c3 c4 hnp hnm hyes
      obtain ⟨b1, h1⟩ : ∃ b, (decide (0 ≤ x1) && decide (x1 ≤ 1000)) = b := ⟨_, rfl⟩
      obtain ⟨b2, h2⟩ : ∃ b, (decide (0 ≤ x2) && decide (x2 ≤ 500)) = b := ⟨_, rfl⟩
      obtain ⟨b3, h3⟩ : ∃ b, (decide (0 ≤ x3) && decide (x3 ≤ 500)) = b := ⟨_, rfl⟩
      obtain ⟨b4, h4⟩ : ∃ b, (decide (0 ≤ x4) && decide (x4 ≤ 20)) = b := ⟨_, rfl⟩
      have hmm : mB (x0, x1, x2, x3, x4) = (b1 && b2 && b3 && b4) := by rw [← h1, ← h2, ← h3, ← h4]; rfl
      have C1 := fun W => sinRange x1 0 1000 W
      have C2 := fun W => sinRange x2 0 500 W
      have C3 := fun W => sinRange x3 0 500 W
      have C4 := fun W => sinRange x4 0 20 W
      rw [h1] at C1
      rw [h2] at C2
      rw [h3] at C3
      rw [h4] at C4
      rw [hmm] at hnm hyes
      have HNP := Lib.hid hnp
      have HNM := Lib.hid hnm
      have HY := Lib.hid hyes
      have HB := Lib.hid hB
      clear h1 h2 h3 h4 hmm hnp hnm hyes hB
      by_cases k0 : k = 0
      · have e0 : ((k : Int) == 0) = true := by simp; omega
        have e1 : (k == 0) = true := by simpa using k0
        have e2 : decide (0 < (k : Int)) = false := decide_eq_false (by omega)
        have e3 : decide (0 < k) = false := decide_eq_false (by omega)
        by_cases hp : x0 = -1
        · have HP2 : Hid (pB x0 k = true) := by show pB x0 k = true; rw [k0, pB_zero]; exact decide_eq_true hp
          clear k0 HNP
          subst hp
          cases b1 with
          | false =>
            have HV : Hid (vnB ns = false) := HNM.out (by simp)
            go_wp2_with fail
            refine (C1 _).mono ?_
            rintro e w' ⟨rfl, rfl⟩
            go_wp2_with fail
            go_ret
            exact ⟨ret_bool HV.out.symm, HB.out.alloc HB.out.size _⟩
          | true =>
            cases b2 with
            | false =>
              have HV : Hid (vnB ns = false) := HNM.out (by simp)
              go_wp2_with fail
              refine (C1 _).mono ?_
              rintro e w' ⟨rfl, rfl⟩
              go_wp2_with fail
              refine (C2 _).mono ?_
              rintro e w' ⟨rfl, rfl⟩
              go_wp2_with fail
              go_ret
              exact ⟨ret_bool HV.out.symm, HB.out.alloc HB.out.size _⟩
            | true =>
              cases b3 with
              | false =>
                have HV : Hid (vnB ns = false) := HNM.out (by simp)
                go_wp2_with fail
                refine (C1 _).mono ?_
                rintro e w' ⟨rfl, rfl⟩
                go_wp2_with fail
                refine (C2 _).mono ?_
                rintro e w' ⟨rfl, rfl⟩
                go_wp2_with fail
                refine (C3 _).mono ?_
                rintro e w' ⟨rfl, rfl⟩
                go_wp2_with fail
                go_ret
                exact ⟨ret_bool HV.out.symm, HB.out.alloc HB.out.size _⟩
              | true =>
                cases b4 with
                | false =>
                  have HV : Hid (vnB ns = false) := HNM.out (by simp)
                  go_wp2_with fail
                  refine (C1 _).mono ?_
                  rintro e w' ⟨rfl, rfl⟩
                  go_wp2_with fail
                  refine (C2 _).mono ?_
                  rintro e w' ⟨rfl, rfl⟩
                  go_wp2_with fail
                  refine (C3 _).mono ?_
                  rintro e w' ⟨rfl, rfl⟩
                  go_wp2_with fail
                  refine (C4 _).mono ?_
                  rintro e w' ⟨rfl, rfl⟩
                  go_wp2_with fail
                  go_ret
                  exact ⟨ret_bool HV.out.symm, HB.out.alloc HB.out.size _⟩
                | true =>
                  have HV := Lib.hid (HY.out HP2.out (by simp))
                  go_wp2_with fail
                  refine (C1 _).mono ?_
                  rintro e w' ⟨rfl, rfl⟩
                  go_wp2_with fail
                  refine (C2 _).mono ?_
                  rintro e w' ⟨rfl, rfl⟩
                  go_wp2_with fail
                  refine (C3 _).mono ?_
                  rintro e w' ⟨rfl, rfl⟩
                  go_wp2_with fail
                  refine (C4 _).mono ?_
                  rintro e w' ⟨rfl, rfl⟩
                  go_wp2_with fail
                  go_roundw
                  case rel => exact ⟨k + 1, by omega, by go_num, HV.out, HB.out.alloc HB.out.size _⟩
                  case measure => simp [intOf]; omega
        · have HV : Hid (vnB ns = false) := HNP.out (by rw [k0]; exact HP.out 0 rfl x0 hp)
          have ep : (x0 == -1) = false := by simpa using hp
          have ep2 : (x0 != -1) = true := by simpa using hp
          have ep3 : decide (x0 = -1) = false := decide_eq_false hp
          clear k0 HNP
          go_wp2_with fail
          go_ret
          exact ⟨ret_bool HV.out.symm, HB.out.alloc HB.out.size _⟩
      · have e0 : ((k : Int) == 0) = false := by simp; omega
        have e1 : (k == 0) = false := by simpa using k0
        have e2 : decide (0 < (k : Int)) = true := decide_eq_true (by omega)
        have e3 : decide (0 < k) = true := decide_eq_true (by omega)
        have e4 : IntKind.i64.wrap ((k : Int) - 1) = (k : Int) - 1 := by rw [IntKind.wrap_i64]; omega
        have hpb : pB x0 k = (decide (0 ≤ x0) && decide (x0 ≤ (k : Int) - 1)) := by rw [pB_pos _ (by omega), inN_range]; rfl
        have C0 := fun W => sinRange x0 0 ((k : Int) - 1) W
        obtain ⟨b0, h0⟩ : ∃ b, (decide (0 ≤ x0) && decide (x0 ≤ (k : Int) - 1)) = b := ⟨_, rfl⟩
        rw [h0] at hpb C0
        have HPB := Lib.hid hpb
        clear h0 hpb k0
        cases b0 with
        | false =>
          have HV : Hid (vnB ns = false) := HNP.out HPB.out
          clear HNP
          go_wp2_with fail
          refine (C0 _).mono ?_
          rintro e w' ⟨rfl, rfl⟩
          go_wp2_with fail
          go_ret
          exact ⟨ret_bool HV.out.symm, HB.out.alloc HB.out.size _⟩
        | true =>
          have HP2 : Hid (pB x0 k = true) := HPB.out
          clear HNP HPB
          cases b1 with
          | false =>
            have HV : Hid (vnB ns = false) := HNM.out (by simp)
            go_wp2_with fail
            refine (C0 _).mono ?_
            rintro e w' ⟨rfl, rfl⟩
            go_wp2_with fail
            refine (C1 _).mono ?_
            rintro e w' ⟨rfl, rfl⟩
            go_wp2_with fail
            go_ret
            exact ⟨ret_bool HV.out.symm, HB.out.alloc HB.out.size _⟩
          | true =>
            cases b2 with
            | false =>
              have HV : Hid (vnB ns = false) := HNM.out (by simp)
              go_wp2_with fail
              refine (C0 _).mono ?_
              rintro e w' ⟨rfl, rfl⟩
              go_wp2_with fail
              refine (C1 _).mono ?_
              rintro e w' ⟨rfl, rfl⟩
              go_wp2_with fail
              refine (C2 _).mono ?_
              rintro e w' ⟨rfl, rfl⟩
              go_wp2_with fail
              go_ret
              exact ⟨ret_bool HV.out.symm, HB.out.alloc HB.out.size _⟩
            | true =>
              cases b3 with
              | false =>
                have HV : Hid (vnB ns = false) := HNM.out (by simp)
                go_wp2_with fail
                refine (C0 _).mono ?_
                rintro e w' ⟨rfl, rfl⟩
                go_wp2_with fail
                refine (C1 _).mono ?_
                rintro e w' ⟨rfl, rfl⟩
                go_wp2_with fail
                refine (C2 _).mono ?_
                rintro e w' ⟨rfl, rfl⟩
                go_wp2_with fail
                refine (C3 _).mono ?_
                rintro e w' ⟨rfl, rfl⟩
                go_wp2_with fail
                go_ret
                exact ⟨ret_bool HV.out.symm, HB.out.alloc HB.out.size _⟩
              | true =>
                cases b4 with
                | false =>
                  have HV : Hid (vnB ns = false) := HNM.out (by simp)
                  go_wp2_with fail
                  refine (C0 _).mono ?_
                  rintro e w' ⟨rfl, rfl⟩
                  go_wp2_with fail
                  refine (C1 _).mono ?_
                  rintro e w' ⟨rfl, rfl⟩
                  go_wp2_with fail
                  refine (C2 _).mono ?_
                  rintro e w' ⟨rfl, rfl⟩
                  go_wp2_with fail
                  refine (C3 _).mono ?_
                  rintro e w' ⟨rfl, rfl⟩
                  go_wp2_with fail
                  refine (C4 _).mono ?_
                  rintro e w' ⟨rfl, rfl⟩
                  go_wp2_with fail
                  go_ret
                  exact ⟨ret_bool HV.out.symm, HB.out.alloc HB.out.size _⟩
                | true =>
                  have HV := Lib.hid (HY.out HP2.out (by simp))
                  go_wp2_with fail
                  refine (C0 _).mono ?_
                  rintro e w' ⟨rfl, rfl⟩
                  go_wp2_with fail
                  refine (C1 _).mono ?_
                  rintro e w' ⟨rfl, rfl⟩
                  go_wp2_with fail
                  refine (C2 _).mono ?_
                  rintro e w' ⟨rfl, rfl⟩
                  go_wp2_with fail
                  refine (C3 _).mono ?_
                  rintro e w' ⟨rfl, rfl⟩
                  go_wp2_with fail
                  refine (C4 _).mono ?_
                  rintro e w' ⟨rfl, rfl⟩
                  go_wp2_with fail
                  go_roundw
                  case rel => exact ⟨k + 1, by omega, by go_num, HV.out, HB.out.alloc HB.out.size _⟩
                  case measure => simp [intOf]; omega
    · obtain rfl : k = ns.length := by omega
      have CE := fun W => sinRange (ns.length : Int) 1 12 W
      rw [← vn_end HA.out] at CE
      have HB := Lib.hid hB
      clear HA hB
      go_wp2_with fail
      refine (CE _).mono ?_
      rintro e w' ⟨rfl, rfl⟩
      go_wp2_with fail
      go_ret
      exact ⟨rfl, HB.out⟩
end Go.Proofs.Ytigapnbpgbfbhaa
namespace Go.Proofs.Ytigapnbpgbfbhaa

/-- P10: how many of the first k weights are more than 0 -/
def posTo (ws : List Int) : Nat → Int
  | 0 => 0
  | k + 1 => posTo ws k + if 0 < ws.getD k 0 then 1 else 0
theorem posTo_succ (ws : List Int) (k : Nat) : posTo ws (k + 1) = posTo ws k + if 0 < ws.getD k 0 then 1 else 0 := rfl
theorem posTo_bd (ws : List Int) : ∀ k, 0 ≤ posTo ws k ∧ posTo ws k ≤ (k : Int) := by
  intro k
  induction k with
  | zero => exact ⟨Int.le_refl _, Int.le_refl _⟩
  | succ k ih => rw [posTo_succ]; split <;> omega
theorem posTo_mem (ws : List Int) {i : Nat} (h : 0 < ws.getD i 0) : ∀ k, i < k → 1 ≤ posTo ws k := by
  intro k
  induction k with
  | zero => intro hk; omega
  | succ k ih =>
    intro hk
    have := posTo_bd ws k
    rw [posTo_succ]
    by_cases e : i = k
    · subst e; rw [if_pos h]; omega
    · have := ih (by omega); split <;> omega
theorem take_all {l : List Int} {n : Nat} (h : l.length = n) : l.take n = l := List.take_of_length_le (by omega)
theorem rest_pos {n : Int} {ws : List Int} (hcs : csB n ws = true) : ∀ k, k ≤ ws.length → ((rsts n ws).take k).sum ≤ (ws.sum - 1) * posTo ws k := by
  have hl := rsts_len n ws
  intro k
  induction k with
  | zero => intro _; simp [posTo]
  | succ k ih =>
    intro hk
    have h1 := ih (by omega)
    have hb := rsts_bd hcs (i := k) (by omega)
    have hw := all_get (cs_yes hcs).2 (i := k) (by omega)
    rw [take_sum _ k (by omega), posTo_succ, Int.mul_add]
    by_cases h : 0 < ws.getD k 0
    · rw [if_pos h]; omega
    · have e : ws.getD k 0 = 0 := by omega
      have : (rsts n ws).getD k 0 = 0 := by rw [rsts_get n ws (by omega), e]; simp
      rw [if_neg h]; omega
theorem left_lt {n : Int} {ws : List Int} (hcs : csB n ws = true) : n - (qs n ws).sum < posTo ws ws.length := by
  obtain ⟨s0, s1⟩ := ws_bd (cs_yes hcs).2
  obtain ⟨i, hi, hp⟩ := pos_some (cs_yes hcs).2
  have h1 := posTo_mem ws hp ws.length hi
  have h2 := rest_pos hcs ws.length (Nat.le_refl _)
  rw [take_all (rsts_len n ws)] at h2
  have h3 := qr_sum n ws
  generalize posTo ws ws.length = p at *
  by_cases h : n - (qs n ws).sum < p
  · exact h
  · have h4 : ws.sum * p ≤ ws.sum * (n - (qs n ws).sum) := Int.mul_le_mul_of_nonneg_left (by omega) (by omega)
    rw [Int.mul_sub, Int.mul_comm ws.sum n] at h4
    rw [Int.sub_mul] at h2
    omega

/-- P11 -/
theorem sr_each {n : Int} {ws : List Int} (hcs : csB n ws = true) {i : Nat} (hi : i < ws.length) :
    (qs n ws).getD i 0 ≤ (sr n ws).getD i 0 ∧ (sr n ws).getD i 0 ≤ (qs n ws).getD i 0 + 1 ∧ (ws.getD i 0 = 0 → (sr n ws).getD i 0 = 0) := by
  have H := rest_is hcs (leftOf n ws) (Nat.le_refl _)
  have he := H.each i hi
  have hz : ws.getD i 0 = 0 → (qs n ws).getD i 0 = 0 ∧ (rsts n ws).getD i 0 = 0 := fun e => by
    rw [qs_get n ws hi, rsts_get n ws hi, e]; simp
  unfold sr
  rcases he with ⟨a, b⟩ | ⟨a, b, c⟩
  · exact ⟨by omega, by omega, fun e => by have := hz e; omega⟩
  · exact ⟨by omega, by omega, fun e => by have := hz e; omega⟩
theorem sr_sum {n : Int} {ws : List Int} (hcs : csB n ws = true) : (sr n ws).sum = n := by
  have H := (rest_is hcs (leftOf n ws) (Nat.le_refl _)).sum
  have := left_is hcs
  unfold sr; omega
theorem q_le_n {n : Int} {ws : List Int} (hcs : csB n ws = true) {i : Nat} (hi : i < ws.length) : 0 ≤ (qs n ws).getD i 0 ∧ (qs n ws).getD i 0 ≤ n := by
  obtain ⟨s0, s1⟩ := ws_bd (cs_yes hcs).2
  have hq := q_le hcs hi
  have hw := all_get (cs_yes hcs).2 hi
  have hle : ws.getD i 0 ≤ ws.sum := by
    have := posS_all (l := ws) (fun i hi => (all_get (cs_yes hcs).2 hi).1)
    have h2 := posS_set (l := ws) hi hw.1
    have h3 : 0 ≤ posS (ws.set i (-1)) := by
      unfold posS
      refine list_nonneg (fun j hj => ?_)
      have : ∀ l : List Int, ∀ j, 0 ≤ (l.map fun z => if z < 0 then 0 else z).getD j 0 := fun l j => by
        rw [List.getD_eq_getElem?_getD, List.getElem?_map]
        cases l[j]? with
        | none => simp
        | some z => simp; split <;> omega
      exact this _ j
    omega
  rw [qs_get n ws hi] at hq ⊢
  refine ⟨hq.1, ?_⟩
  have h1 : n * ws.getD i 0 ≤ n * ws.sum := Int.mul_le_mul_of_nonneg_left hle (cs_yes hcs).1.1
  have h2 := Int.ediv_le_ediv (c := ws.sum) (by omega) h1
  rwa [Int.mul_ediv_cancel _ (by omega)] at h2
theorem sr_bd {n : Int} {ws : List Int} (hcs : csB n ws = true) {i : Nat} (hi : i < ws.length) : 0 ≤ (sr n ws).getD i 0 ∧ (sr n ws).getD i 0 ≤ 501 := by
  have a := sr_each hcs hi
  have b := q_le_n hcs hi
  have c := (cs_yes hcs).1
  omega

/-- P13, P15 -/
def Env (step : Int) (ws gs : List Int) : Prop := ∀ i k, i < ws.length → k < ws.length → 0 < gs.getD k 0 → ws.getD i 0 * (step * (gs.getD k 0 - 1) + 1) ≤ ws.getD k 0 * (step * gs.getD i 0 + 1)
theorem env_is {step : Int} {ws : List Int} (hv : vwB ws = true) (hs : 1 ≤ step ∧ step ≤ 2) : ∀ j, j ≤ 1000 → Env step ws (avgTo step ws j) := by
  intro j
  induction j with
  | zero =>
    intro _ i k hi hk h
    have := (avg_is hv hs 0 (by omega)).bd k hk
    omega
  | succ j ih =>
    intro hj i k hi hk
    have E := ih (by omega)
    have A := avg_is hv hs j (by omega)
    have hb := (avg_pos hv hs (by omega) A).1
    have hmax := fun i (hi : i < ws.length) => avg_max hv hs (by omega) A hi
    have e := avgTo_succ step ws j
    have hl := avgTo_len step ws j
    generalize pickB (avgB step ws (avgTo step ws j)) ws.length = b at *
    have g1 := fun i => getD_set (avgTo step ws j) b ((avgTo step ws j).getD b 0 + 1) (by omega) i
    rw [← e] at g1
    have hw := (all_get hv hk).1
    have mono : ws.getD k 0 * (step * (avgTo step ws j).getD i 0 + 1) ≤ ws.getD k 0 * (step * (avgTo step ws (j + 1)).getD i 0 + 1) := by
      refine Int.mul_le_mul_of_nonneg_left ?_ hw
      have : step * (avgTo step ws j).getD i 0 ≤ step * (avgTo step ws (j + 1)).getD i 0 := by
        refine Int.mul_le_mul_of_nonneg_left ?_ (by omega)
        rw [g1 i]; split
        · next h => subst h; omega
        · omega
      omega
    intro h
    refine Int.le_trans ?_ mono
    rw [g1 k] at h ⊢
    by_cases ek : k = b
    · subst ek
      rw [if_pos rfl]
      have := hmax i hi
      rw [show (avgTo step ws j).getD k 0 + 1 - 1 = (avgTo step ws j).getD k 0 by omega]
      exact this
    · rw [if_neg ek] at h ⊢
      exact E i k hi hk h
theorem sa_facts {step n : Int} {ws : List Int} (hcs : csB n ws = true) (hs : 1 ≤ step ∧ step ≤ 2) :
    (sa step n ws).sum = n ∧ Env step ws (sa step n ws) ∧ ∀ i, i < ws.length → 0 ≤ (sa step n ws).getD i 0 ∧ (sa step n ws).getD i 0 ≤ n := by
  obtain ⟨⟨a, b⟩, hv⟩ := cs_yes hcs
  have A := avg_is hv hs n.toNat (by omega)
  unfold sa
  refine ⟨by rw [A.sum]; omega, env_is hv hs _ (by omega), fun i hi => by have := A.bd i hi; omega⟩
theorem high_env {n : Int} {ws : List Int} (hcs : csB n ws = true) {i k : Nat} (hi : i < ws.length) (hk : k < ws.length) : ws.getD i 0 * (sa 1 n ws).getD k 0 ≤ ws.getD k 0 * ((sa 1 n ws).getD i 0 + 1) := by
  obtain ⟨_, E, B⟩ := sa_facts hcs (step := 1) (by omega)
  have := B k hk
  have b2 := B i hi
  by_cases h : 0 < (sa 1 n ws).getD k 0
  · have := E i k hi hk h
    rw [Int.one_mul, Int.one_mul, show (sa 1 n ws).getD k 0 - 1 + 1 = (sa 1 n ws).getD k 0 by omega] at this
    exact this
  · have e : (sa 1 n ws).getD k 0 = 0 := by omega
    rw [e, Int.mul_zero]
    exact Int.mul_nonneg (all_get (cs_yes hcs).2 hk).1 (by omega)
theorem sum_mul_le (c d : Int) (gs ws : List Int) (m : Nat) (hg : gs.length = m) (hw : ws.length = m) (h : ∀ k, k < m → c * gs.getD k 0 ≤ ws.getD k 0 * d) : ∀ k, k ≤ m → c * (gs.take k).sum ≤ (ws.take k).sum * d := by
  intro k
  induction k with
  | zero => intro _; simp
  | succ k ih =>
    intro hk
    rw [take_sum gs k (by omega), take_sum ws k (by omega), Int.mul_add, Int.add_mul]
    have := ih (by omega)
    have := h k (by omega)
    omega
theorem sum_mul_lt (c d : Int) (gs ws : List Int) (m i : Nat) (hg : gs.length = m) (hw : ws.length = m) (h : ∀ k, k < m → c * gs.getD k 0 ≤ ws.getD k 0 * d) (hi : c * gs.getD i 0 < ws.getD i 0 * d) : ∀ k, k ≤ m → i < k → c * (gs.take k).sum < (ws.take k).sum * d := by
  intro k
  induction k with
  | zero => intro _ h; omega
  | succ k ih =>
    intro hk hik
    rw [take_sum gs k (by omega), take_sum ws k (by omega), Int.mul_add, Int.add_mul]
    have h1 := h k (by omega)
    by_cases e : i = k
    · subst e
      have := sum_mul_le c d gs ws m hg hw h i (by omega)
      omega
    · have := ih (by omega) (by omega)
      omega
theorem high_quota {n : Int} {ws : List Int} (hcs : csB n ws = true) {i : Nat} (hi : i < ws.length) : (qs n ws).getD i 0 ≤ (sa 1 n ws).getD i 0 := by
  obtain ⟨S, E, B⟩ := sa_facts hcs (step := 1) (by omega)
  obtain ⟨s0, s1⟩ := ws_bd (cs_yes hcs).2
  have hw := all_get (cs_yes hcs).2 hi
  have hb := B i hi
  rw [qs_get n ws hi]
  by_cases h0 : 0 < ws.getD i 0
  · have h1 := sum_mul_lt (ws.getD i 0) ((sa 1 n ws).getD i 0 + 1) (sa 1 n ws) ws ws.length i (sa_len 1 n ws) rfl (fun k hk => high_env hcs hi hk) (Int.mul_lt_mul_of_pos_left (by omega) h0) ws.length (Nat.le_refl _) hi
    rw [take_all (sa_len 1 n ws), take_all rfl, S] at h1
    have h2 : n * ws.getD i 0 / ws.sum < (sa 1 n ws).getD i 0 + 1 := Int.ediv_lt_of_lt_mul (by omega) (by rw [Int.mul_comm n, Int.mul_comm _ ws.sum]; exact h1)
    omega
  · have e : ws.getD i 0 = 0 := by omega
    rw [e, Int.mul_zero, Int.zero_ediv]; exact hb.1
theorem mid_env {n : Int} {ws : List Int} (hcs : csB n ws = true) {i k : Nat} (hi : i < ws.length) (hk : k < ws.length) (h : 0 < (sa 2 n ws).getD k 0) : ws.getD i 0 * (2 * (sa 2 n ws).getD k 0 - 1) ≤ ws.getD k 0 * (2 * (sa 2 n ws).getD i 0 + 1) := by
  have := (sa_facts hcs (step := 2) (by omega)).2.1 i k hi hk h
  rw [show 2 * ((sa 2 n ws).getD k 0 - 1) + 1 = 2 * (sa 2 n ws).getD k 0 - 1 by omega] at this
  exact this

/-- P14, P16: a list of zeros with a one -/
def one1 (m b : Nat) : List Int := (List.replicate m 0).set b 1
theorem one1_len (m b : Nat) : (one1 m b).length = m := by unfold one1; simp
theorem one1_get {m b : Nat} (hb : b < m) (i : Nat) : (one1 m b).getD i 0 = if i = b then 1 else 0 := by
  unfold one1
  rw [getD_set _ _ _ (by simpa using hb)]
  split
  · rfl
  · rw [List.getD_eq_getElem?_getD, List.getElem?_replicate]; split <;> rfl
theorem one1_sum {m b : Nat} (hb : b < m) : (one1 m b).sum = 1 := by
  unfold one1
  rw [sum_set _ _ _ (by simpa using hb), List.getD_eq_getElem?_getD, List.getElem?_replicate]
  simp [hb]
theorem sa_more {step n : Int} {ws : List Int} (hcs : csB n ws = true) (hs : 1 ≤ step ∧ step ≤ 2) : ∃ b, b < ws.length ∧ sa step (n + 1) ws = (sa step n ws).set b ((sa step n ws).getD b 0 + 1) := by
  obtain ⟨⟨a, b⟩, hv⟩ := cs_yes hcs
  refine ⟨pickB (avgB step ws (avgTo step ws n.toNat)) ws.length, (avg_pos hv hs (by omega) (avg_is hv hs n.toNat (by omega))).1, ?_⟩
  unfold sa
  rw [show (n + 1).toNat = n.toNat + 1 by omega, avgTo_succ]
theorem csB_more {n : Int} {ws : List Int} (hcs : csB n ws = true) (h : n ≠ 500) : csB (n + 1) ws = true := by
  obtain ⟨⟨a, b⟩, hv⟩ := cs_yes hcs
  rw [cs_is (by omega)]; exact hv
/-- the greatest of the first k numbers, at least 0 -/
def hiTo (zs : List Int) : Nat → Int
  | 0 => 0
  | k + 1 => max (hiTo zs k) (zs.getD k 0)
theorem hiTo_succ (zs : List Int) (k : Nat) : hiTo zs (k + 1) = max (hiTo zs k) (zs.getD k 0) := rfl
/-- how many of the first k numbers are n -/
def cntTo (zs : List Int) (n : Int) : Nat → Int
  | 0 => 0
  | k + 1 => cntTo zs n k + if zs.getD k 0 = n then 1 else 0
theorem cntTo_succ (zs : List Int) (n : Int) (k : Nat) : cntTo zs n (k + 1) = cntTo zs n k + if zs.getD k 0 = n then 1 else 0 := rfl
theorem cntTo_bd (zs : List Int) (n : Int) : ∀ k, 0 ≤ cntTo zs n k ∧ cntTo zs n k ≤ (k : Int) := by
  intro k
  induction k with
  | zero => exact ⟨Int.le_refl _, Int.le_refl _⟩
  | succ k ih => rw [cntTo_succ]; split <;> omega
theorem one1_hi {m b : Nat} (hb : b < m) : hiTo (one1 m b) m = 1 := by
  have : ∀ k, hiTo (one1 m b) k = if b < k then 1 else 0 := by
    intro k
    induction k with
    | zero => simp [hiTo]
    | succ k ih =>
      rw [hiTo_succ, ih, one1_get hb]
      by_cases h1 : b < k
      · rw [if_pos h1, if_neg (show ¬ k = b by omega), if_pos (by omega)]; decide
      · by_cases h2 : k = b
        · rw [if_neg h1, if_pos h2, if_pos (by omega)]; decide
        · rw [if_neg h1, if_neg h2, if_neg (by omega)]; decide
  rw [this, if_pos hb]
theorem one1_cnt {m b : Nat} (hb : b < m) : cntTo (one1 m b) 0 m = (m : Int) - 1 := by
  have : ∀ k, cntTo (one1 m b) 0 k = if b < k then (k : Int) - 1 else k := by
    intro k
    induction k with
    | zero => simp [cntTo]
    | succ k ih =>
      rw [cntTo_succ, ih, one1_get hb]
      by_cases h1 : b < k
      · rw [if_pos h1, if_neg (show ¬ k = b by omega), if_pos rfl, if_pos (by omega)]; omega
      · by_cases h2 : k = b
        · rw [if_neg h1, if_pos h2, if_neg (by omega), if_pos (by omega)]; omega
        · rw [if_neg h1, if_neg h2, if_pos rfl, if_neg (by omega)]; omega
  rw [this, if_pos hb]
/-- twice the weights -/
def dbl (ws : List Int) : List Int := ws.map fun z => 2 * z
theorem dbl_len (ws : List Int) : (dbl ws).length = ws.length := by unfold dbl; simp
theorem dbl_get (ws : List Int) (i : Nat) : (dbl ws).getD i 0 = 2 * ws.getD i 0 := by
  unfold dbl
  rw [List.getD_eq_getElem?_getD, List.getD_eq_getElem?_getD, List.getElem?_map]
  cases ws[i]? <;> simp
theorem dbl_sum (ws : List Int) : (dbl ws).sum = 2 * ws.sum := by
  unfold dbl
  induction ws with
  | nil => rfl
  | cons x l ih => simp only [List.map_cons, List.sum_cons, ih]; omega
theorem hi_bd (zs : List Int) : ∀ k i, i < k → zs.getD i 0 ≤ hiTo zs k := by
  intro k
  induction k with
  | zero => intro i h; omega
  | succ k ih =>
    intro i h
    rw [hiTo_succ]
    by_cases e : i = k
    · subst e; exact Int.le_max_right _ _
    · exact Int.le_trans (ih i (by omega)) (Int.le_max_left _ _)
theorem dbl_cs {n : Int} {ws : List Int} (hcs : csB n ws = true) (h : hiTo (dbl ws) ws.length ≤ 1000) : csB n (dbl ws) = true := by
  obtain ⟨⟨a, b⟩, hv⟩ := cs_yes hcs
  rw [cs_is (by omega)]
  have hl := dbl_len ws
  have hd : allB (dbl ws) 1000 = true := allB_yes (fun i hi => by
    rw [hl] at hi
    have h1 := hi_bd (dbl ws) ws.length i hi
    have h2 := dbl_get ws i
    have h3 := all_get hv hi
    omega)
  unfold vwB
  rw [hd, decide_eq_true (by rw [hl]; exact (vw_is hv).2.1), decide_eq_true (by rw [dbl_sum]; have := (ws_bd hv).1; omega)]
  rfl
theorem dbl_avg (step : Int) (ws : List Int) : ∀ j, avgTo step (dbl ws) j = avgTo step ws j := by
  have hR : ∀ gs, avgB step (dbl ws) gs = avgB step ws gs := fun gs => by
    funext i b
    unfold avgB
    rw [dbl_get, dbl_get, Int.mul_assoc, Int.mul_assoc]
    exact decide_eq_decide.2 (by omega)
  intro j
  induction j with
  | zero => show List.replicate _ _ = List.replicate _ _; rw [dbl_len]
  | succ j ih => rw [avgTo_succ, avgTo_succ, ih, hR, dbl_len]
theorem dbl_sa (step n : Int) (ws : List Int) : sa step n (dbl ws) = sa step n ws := dbl_avg step ws _

/-- P12: nothing is nearer -/
def chosen (n : Int) (ws : List Int) (i : Nat) : Prop := (sr n ws).getD i 0 = (qs n ws).getD i 0 + 1
theorem near_rho {n : Int} {ws : List Int} (hcs : csB n ws = true) : ∃ r : Int, 0 ≤ r ∧ r ≤ ws.sum ∧ ∀ i, i < ws.length →
    ((sr n ws).getD i 0 = (qs n ws).getD i 0 + 1 ∧ r ≤ (rsts n ws).getD i 0) ∨ ((sr n ws).getD i 0 = (qs n ws).getD i 0 ∧ (rsts n ws).getD i 0 ≤ r) := by
  have H := rest_is hcs (leftOf n ws) (Nat.le_refl _)
  have ord : ∀ i k, i < ws.length → k < ws.length → (sr n ws).getD i 0 = (qs n ws).getD i 0 + 1 → (sr n ws).getD k 0 = (qs n ws).getD k 0 → (rsts n ws).getD k 0 ≤ (rsts n ws).getD i 0 := fun i k hi hk h1 h2 => by
    have a := H.each i hi
    have b := H.each k hk
    have c := rsts_bd hcs hk
    unfold sr at h1 h2
    exact H.order i k hi hk (by omega) (by omega)
  obtain ⟨s0, s1⟩ := ws_bd (cs_yes hcs).2
  have key : ∀ m, m ≤ ws.length → ∃ r : Int, 0 ≤ r ∧ r ≤ ws.sum ∧ (∀ i, i < m → (sr n ws).getD i 0 = (qs n ws).getD i 0 + 1 → r ≤ (rsts n ws).getD i 0) ∧ (∀ i, i < ws.length → (sr n ws).getD i 0 = (qs n ws).getD i 0 → (rsts n ws).getD i 0 ≤ r) := by
    intro m
    induction m with
    | zero => intro _; exact ⟨ws.sum, by omega, Int.le_refl _, fun i hi => by omega, fun i hi _ => Int.le_of_lt (rsts_bd hcs hi).2.1⟩
    | succ m ih =>
      intro hm
      obtain ⟨r, r0, r1, h1, h2⟩ := ih (by omega)
      have hb := rsts_bd hcs (i := m) (by omega)
      by_cases hc : (sr n ws).getD m 0 = (qs n ws).getD m 0 + 1
      · by_cases hr : r ≤ (rsts n ws).getD m 0
        · refine ⟨r, r0, r1, fun i hi h => ?_, h2⟩
          by_cases e : i = m
          · subst e; exact hr
          · exact h1 i (by omega) h
        · refine ⟨(rsts n ws).getD m 0, hb.1, Int.le_of_lt hb.2.1, fun i hi h => ?_, fun i hi h => ord m i (by omega) hi hc h⟩
          by_cases e : i = m
          · subst e; exact Int.le_refl _
          · have := h1 i (by omega) h; omega
      · refine ⟨r, r0, r1, fun i hi h => ?_, h2⟩
        by_cases e : i = m
        · subst e; exact absurd h hc
        · exact h1 i (by omega) h
  obtain ⟨r, r0, r1, h1, h2⟩ := key ws.length (Nat.le_refl _)
  refine ⟨r, r0, r1, fun i hi => ?_⟩
  have a := H.each i hi
  have e : (sr n ws).getD i 0 = (qs n ws).getD i 0 ∨ (sr n ws).getD i 0 = (qs n ws).getD i 0 + 1 := by unfold sr; omega
  rcases e with e | e
  · exact .inr ⟨e, h2 i hi e⟩
  · exact .inl ⟨e, h1 i hi e⟩
theorem absd_le_iff (a b c : Int) : c ≤ absd a b ↔ c ≤ b - a ∨ c ≤ a - b := by
  unfold absd; split <;> omega
theorem near_one {S r p q o x : Int} (hr0 : 0 ≤ r) (hr1 : r < S) (hp0 : 0 ≤ p) (hp1 : p ≤ S) (ho : (o = q + 1 ∧ p ≤ r) ∨ (o = q ∧ r ≤ p)) :
    absd (o * S) (S * q + r) + (S - 2 * p) * (x - o) ≤ absd (x * S) (S * q + r) := by
  have e1 : ∀ y : Int, (q + y) * S - (S * q + r) = y * S - r := fun y => by rw [Int.add_mul, Int.mul_comm q S]; omega
  obtain ⟨y, rfl⟩ : ∃ y, x = q + y := ⟨x - q, by omega⟩
  have hx := e1 y
  rw [absd_le_iff]
  rcases ho with ⟨rfl, hp⟩ | ⟨rfl, hp⟩
  · have h1 := e1 1
    have ea : absd ((q + 1) * S) (S * q + r) = S - r := by unfold absd; split <;> omega
    rw [ea]
    by_cases hy : 1 ≤ y
    · right
      have h2 : 0 ≤ p * (y - 1) := Int.mul_nonneg hp0 (by omega)
      have h3 : (S - 2 * p) * (q + y - (q + 1)) = y * S - S - 2 * (p * (y - 1)) := by
        rw [show q + y - (q + 1) = y - 1 by omega, Int.sub_mul, Int.mul_sub S, Int.mul_one, Int.mul_comm S y, Int.mul_assoc]
      omega
    · left
      have h2 : 0 ≤ (S - p) * (-y) := Int.mul_nonneg (by omega) (by omega)
      have h3 : (S - 2 * p) * (q + y - (q + 1)) = y * S - S - 2 * (p * y) + 2 * p := by
        rw [show q + y - (q + 1) = y - 1 by omega, Int.sub_mul, Int.mul_sub S, Int.mul_one, Int.mul_comm S y, Int.mul_assoc, Int.mul_sub p, Int.mul_one]; omega
      rw [Int.mul_neg, Int.sub_mul, Int.mul_comm S y] at h2
      omega
  · have h1 := e1 0
    have ea : absd (o * S) (S * o + r) = r := by
      rw [Int.add_zero, Int.zero_mul] at h1
      unfold absd; split <;> omega
    rw [ea]
    by_cases hy : 1 ≤ y
    · right
      have h2 : 0 ≤ p * (y - 1) := Int.mul_nonneg hp0 (by omega)
      have h3 : (S - 2 * p) * (o + y - o) = y * S - 2 * (p * y) := by
        rw [show o + y - o = y by omega, Int.sub_mul, Int.mul_comm S y, Int.mul_assoc]
      rw [Int.mul_sub, Int.mul_one] at h2
      omega
    · left
      have h2 : 0 ≤ (S - p) * (-y) := Int.mul_nonneg (by omega) (by omega)
      have h3 : (S - 2 * p) * (o + y - o) = y * S - 2 * (p * y) := by
        rw [show o + y - o = y by omega, Int.sub_mul, Int.mul_comm S y, Int.mul_assoc]
      rw [Int.mul_neg, Int.sub_mul, Int.mul_comm S y] at h2
      omega
theorem near {n : Int} {ws xs : List Int} (hcs : csB n ws = true) (hl : xs.length = ws.length) (hx : xs.sum = n) : distTo (sr n ws) ws ws.length ≤ distTo xs ws ws.length := by
  obtain ⟨p, p0, p1, hp⟩ := near_rho hcs
  obtain ⟨s0, s1⟩ := ws_bd (cs_yes hcs).2
  have ho := sr_sum hcs
  have hol := sr_len n ws
  have key : ∀ k, k ≤ ws.length → distTo (sr n ws) ws k + (ws.sum - 2 * p) * ((xs.take k).sum - ((sr n ws).take k).sum) ≤ distTo xs ws k := by
    intro k
    induction k with
    | zero => intro _; simp [distTo]
    | succ k ih =>
      intro hk
      have h1 := ih (by omega)
      have hr := rsts_bd hcs (i := k) (by omega)
      have e : ws.getD k 0 * n = ws.sum * (qs n ws).getD k 0 + (rsts n ws).getD k 0 := by
        rw [qs_get n ws (by omega), rsts_get n ws (by omega), Int.mul_comm _ n]
        exact (Int.mul_ediv_add_emod _ _).symm
      have h2 := near_one (x := xs.getD k 0) (q := (qs n ws).getD k 0) (o := (sr n ws).getD k 0) hr.1 hr.2.1 p0 p1 (hp k (by omega))
      rw [← e] at h2
      show distTo (sr n ws) ws k + dterm (sr n ws) ws k + _ ≤ distTo xs ws k + dterm xs ws k
      have d1 : dterm (sr n ws) ws k = absd ((sr n ws).getD k 0 * ws.sum) (ws.getD k 0 * n) := by unfold dterm; rw [ho]
      have d2 : dterm xs ws k = absd (xs.getD k 0 * ws.sum) (ws.getD k 0 * n) := by unfold dterm; rw [hx]
      rw [d1, d2, take_sum xs k (by omega), take_sum (sr n ws) k (by omega)]
      have h3 : (ws.sum - 2 * p) * ((xs.take k).sum + xs.getD k 0 - (((sr n ws).take k).sum + (sr n ws).getD k 0)) = (ws.sum - 2 * p) * ((xs.take k).sum - ((sr n ws).take k).sum) + (ws.sum - 2 * p) * (xs.getD k 0 - (sr n ws).getD k 0) := by
        rw [← Int.mul_add]; congr 1; omega
      rw [h3]; omega
  have := key ws.length (Nat.le_refl _)
  rw [take_all hl, take_all hol, hx, ho, Int.sub_self, Int.mul_zero] at this
  omega
end Go.Proofs.Ytigapnbpgbfbhaa
namespace Go.Proofs.Ytigapnbpgbfbhaa
open Go.RowKit
set_option linter.unusedSimpArgs false
set_option linter.unusedVariables false
theorem kids_len (ns : List Nd) (at_ : Int) : (kidsF ns at_).length ≤ ns.length := kidsTo_len ns at_ _
set_option maxHeartbeats 2000000 in
/-- spec.kidsOf -/
theorem skids (a : Option Addr) (cap : Nat) (ns : List Nd) (at_ : Int) (w : World) (h : IsNd w a ns) (hv : vnB ns = true) :
    Calls Try.prog 51 #[.slice a ns.length cap, .int .i64 at_] w (OutI w (kidsF ns at_)) := by
  obtain ⟨l1, l12, _⟩ := vn_is hv
  obtain ⟨i0, hi0, hz0, hz1, hz2⟩ := info_parts infoInt
  rcases h with rfl | ⟨g, o, rfl, hc⟩
  · simp at l1
  have HC := Lib.hid hc
  clear hc hv
  go_enter Try.func51, Try.ntmps51
  go_wp2_with fail
  go_loopw [5, 6] (fun v i wr => ∃ k : Nat, k ≤ ns.length ∧ i = .int .i64 k ∧ OwnI wr w.heap.size v (kidsTo ns at_ k) ∧ Below w.heap.size w wr) (fun _ i _ => ns.length - (intOf i).toNat)
  case atStart => exact ⟨0, Nat.zero_le _, rfl, OwnI.new (Below.refl _ w), by go_grown⟩
  case round =>
    obtain ⟨k, hk, rfl, hO, hB⟩ := hrel
    have hsz := hB.size
    by_cases hlt : k < ns.length
    · have c0 := (nd_at HC.out hB hlt).1
      have hyes : (ns.getD k nd0).1 = at_ → kidsTo ns at_ (k + 1) = kidsTo ns at_ k ++ [(k : Int)] := fun e => kidsTo_yes e
      have hno : ¬ (ns.getD k nd0).1 = at_ → kidsTo ns at_ (k + 1) = kidsTo ns at_ k := fun e => kidsTo_no e
      have hll := kidsTo_len ns at_ k
      generalize (ns.getD k nd0).1 = x0 at c0 hyes hno
      generalize kidsTo ns at_ k = ks at hyes hno hll hO
      by_cases hp : x0 = at_
      · have HY := Lib.hid (hyes hp)
        subst hp
        clear hyes hno
        go_wp2_with (first | (at_builtin; refine wpList_append_own _ rfl (.tmp 21) (.tmp 23) _ rfl w.heap.size 3 i0 (.int .i64 0) 1 8 Try.underlying23 hi0 hz0 hz1 hz2 rfl (by decide) _ _ _ rfl (hO.alloc _) ⟨wr.heap.size, 0, none⟩ 1 1 [.int .i64 (k : Int)] rfl rfl (cell_one_new _ _ _) (fun x hx => by simp at hx; subst hx; rfl) (by unfold maxLen; omega) (by omega) (by simp; omega) ?_; intro v3 w3 hown3 hgrow3 hnil3))
        have HR : Hid (OwnI w3 w.heap.size v3 (kidsTo ns x0 (k + 1)) ∧ Below w.heap.size w w3) := ⟨by rw [HY.out]; exact OwnI.snoc hown3, (hB.alloc hsz _).grown hgrow3 (by simp; omega) hO.grow⟩
        clear hO hown3 hgrow3 hnil3 hB
        go_roundw
        case rel => exact ⟨k + 1, by omega, by go_num, HR.out.1, HR.out.2⟩
        case measure => simp [intOf]; omega
      · have HY := Lib.hid (hno hp)
        have eb : (x0 == at_) = false := by simpa using hp
        have HO := Lib.hid hO
        have HB := Lib.hid hB
        clear hyes hno hp hO hB
        go_wp2_with fail
        go_roundw
        case rel => exact ⟨k + 1, by omega, by go_num, by rw [HY.out]; exact HO.out, HB.out⟩
        case measure => simp [intOf]; omega
    · have HO := Lib.hid hO
      have HB := Lib.hid hB
      clear hO hB
      go_wp2_with fail
      go_ret
      exact ⟨_, rfl, by rw [show k = ns.length from by omega] at HO; exact HO.out, HB.out⟩
set_option maxHeartbeats 4000000 in
/-- impl.KidsOf -/
theorem iKids (a : Option Addr) (cap : Nat) (ns : List Nd) (at_ : Int) (w : World) (h : IsNd w a ns) (hn : ns.length ≤ 1048576) (hcap : ns.length ≤ cap) :
    Calls Try.prog 35 #[.slice a ns.length cap, .int .i64 at_] w (OutI w (kidsV ns at_)) := by
  have VN := iVN a cap ns _ h hn hcap
  have CI := fun W => iisNode a ns.length cap at_ W hn
  skip
  skip
  cases hv : vnB ns with
  | false =>
    rw [kids_no (.inl hv)]
    rw [hv] at VN
    clear hv h
    go_enter Try.func35, Try.ntmps35
    go_wp2_with fail
    refine VN.mono ?_
    rintro e w1 ⟨rfl, C⟩
    go_wp2_with fail
    go_ret
    exact outI_nil C
  | true =>
  rw [hv] at VN
  cases hi : inN ns.length at_ with
  | false =>
    rw [kids_no (.inr hi)]
    rw [hi] at CI
    clear hv hi h
    go_enter Try.func35, Try.ntmps35
    go_wp2_with fail
    refine VN.mono ?_
    rintro e w1 ⟨rfl, C⟩
    go_wp2_with fail
    refine (CI _).mono ?_
    rintro e w' ⟨rfl, rfl⟩
    go_wp2_with fail
    go_ret
    exact outI_nil C
  | true =>
    rw [hi] at CI
    rw [kids_yes hv hi]
    obtain ⟨i0, hi0, hz0, hz1, hz2⟩ := info_parts infoInt
    have HH := Lib.hid h
    obtain ⟨l1, l12, _⟩ := vn_is hv
    rcases h with rfl | ⟨g, o, rfl, hc⟩
    · simp at l1
    have HC := Lib.hid hc
    clear hi hc hv
    go_enter Try.func35, Try.ntmps35
    go_wp2_with fail
    refine VN.mono ?_
    rintro e w1 ⟨rfl, C⟩
    go_wp2_with fail
    refine (CI _).mono ?_
    rintro e w' ⟨rfl, rfl⟩
    clear VN CI
    go_wp2_with fail
    go_loopw [5, 20] (fun v i wr => ∃ k : Nat, k ≤ ns.length ∧ i = .int .i64 k ∧ OwnI wr w.heap.size v (kidsTo ns at_ k) ∧ Below w.heap.size w wr) (fun _ i _ => ns.length - (intOf i).toNat)
    case atStart => exact ⟨0, Nat.zero_le _, rfl, OwnI.new C, C.alloc C.size _⟩
    case round =>
      clear C
      obtain ⟨k, hk, rfl, hO, hB⟩ := hrel
      have hsz := hB.size
      by_cases hlt : k < ns.length
      · obtain ⟨c0, c1, c2, c3, c4⟩ := nd_at HC.out hB hlt
        have hyes : (ns.getD k nd0).1 = at_ → kidsTo ns at_ (k + 1) = kidsTo ns at_ k ++ [(k : Int)] := fun e => kidsTo_yes e
        have hno : ¬ (ns.getD k nd0).1 = at_ → kidsTo ns at_ (k + 1) = kidsTo ns at_ k := fun e => kidsTo_no e
        have hll := kidsTo_len ns at_ k
        generalize ns.getD k nd0 = nd at c0 c1 c2 c3 c4 hyes hno
        obtain ⟨x0, x1, x2, x3, x4⟩ := nd
        dsimp only at c0 c1 c2 c3 c4 hyes hno
        generalize kidsTo ns at_ k = ks at hyes hno hll hO
        obtain ⟨Wa, hWa⟩ : ∃ Wa, wr.alloc (.cells #[.int .i64 x0, .int .i64 x1, .int .i64 x2, .int .i64 x3, .int .i64 x4] 47) = Wa := ⟨_, rfl⟩
        have K0 : Blk Wa wr.heap.size 47 #[.int .i64 x0, .int .i64 x1, .int .i64 x2, .int .i64 x3, .int .i64 x4] := by rw [← hWa]; exact Blk.new _ _ _
        have kb0 := K0.cell 0
        dsimp at kb0
        have hOa : OwnI Wa w.heap.size u5 ks := by rw [← hWa]; exact World.ownsRow.alloc hO _
        have hBa : Below w.heap.size w Wa := by rw [← hWa]; exact hB.alloc hsz _
        have hsa := hBa.size
        clear hO hB K0
        by_cases hp : x0 = at_
        · have HY := Lib.hid (hyes hp)
          subst hp
          clear hyes hno
          go_wp2_with (first | (at_builtin; refine wpList_append_own _ rfl (.tmp 29) (.tmp 31) _ rfl w.heap.size 3 i0 (.int .i64 0) 1 8 Try.underlying23 hi0 hz0 hz1 hz2 rfl (by decide) _ _ _ rfl (hOa.alloc _) ⟨Wa.heap.size, 0, none⟩ 1 1 [.int .i64 (k : Int)] rfl rfl (cell_one_new _ _ _) (fun x hx => by simp at hx; subst hx; rfl) (by unfold maxLen; omega) (by omega) (by simp; omega) ?_; intro v3 w3 hown3 hgrow3 hnil3))
          have HR : Hid (OwnI w3 w.heap.size v3 (kidsTo ns x0 (k + 1)) ∧ Below w.heap.size w w3) := ⟨by rw [HY.out]; exact OwnI.snoc hown3, (hBa.alloc hsa _).grown hgrow3 (by simp; omega) hOa.grow⟩
          clear hOa hown3 hgrow3 hnil3 hBa hWa kb0
          go_roundw
          case rel => exact ⟨k + 1, by omega, by go_num, HR.out.1, HR.out.2⟩
          case measure => simp [intOf]; omega
        · have HY := Lib.hid (hno hp)
          have eb : (x0 == at_) = false := by simpa using hp
          have HO := Lib.hid hOa
          have HB := Lib.hid hBa
          clear hyes hno hp hOa hBa
          go_wp2_with fail
          go_roundw
          case rel => exact ⟨k + 1, by omega, by go_num, by rw [HY.out]; exact HO.out, HB.out⟩
          case measure => simp [intOf]; omega
      · have HO := Lib.hid hO
        have HB := Lib.hid hB
        clear hO hB
        go_wp2_with fail
        go_ret
        exact ⟨_, rfl, by rw [show k = ns.length from by omega] at HO; exact HO.out, HB.out⟩
end Go.Proofs.Ytigapnbpgbfbhaa
namespace Go.Proofs.Ytigapnbpgbfbhaa
open Go.RowKit
set_option linter.unusedSimpArgs false
set_option linter.unusedVariables false
end Go.Proofs.Ytigapnbpgbfbhaa
