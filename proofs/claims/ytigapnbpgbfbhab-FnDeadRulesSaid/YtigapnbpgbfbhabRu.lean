/- Rules as they lie in memory (5 integers each), and as they come in. No condition. -/
import Derived.Test.YtigapnbpgbfbhabGrA
import Derived.Deep.Slices
import Derived.ChangeSame
import Derived.ChangeArms
import Derived.ProofKit
namespace Go.Proofs.Ytigapnbpgbfbhab
open Go.ChangeShapes Go.WideShapes Go.RowKit Go.Deep

abbrev Ru := Int × Int × Int × Int × Int
abbrev ru0 : Ru := (0, 0, 0, 0, 0)
/-- the numbers, one after the other -/
def flatRu : List Ru → List Int
  | [] => []
  | h :: t => h.1 :: h.2.1 :: h.2.2.1 :: h.2.2.2.1 :: h.2.2.2.2 :: flatRu t
theorem flatRu_len : ∀ xs : List Ru, (flatRu xs).length = xs.length * 5 := by
  intro xs
  induction xs with
  | nil => rfl
  | cons h t ih => show (flatRu t).length + 1 + 1 + 1 + 1 + 1 = (t.length + 1) * 5; rw [ih]; omega
theorem flatRu_append : ∀ a b : List Ru, flatRu (a ++ b) = flatRu a ++ flatRu b := by
  intro a b
  induction a with
  | nil => rfl
  | cons h t ih => show h.1 :: h.2.1 :: h.2.2.1 :: h.2.2.2.1 :: h.2.2.2.2 :: flatRu (t ++ b) = _; rw [ih]; rfl
theorem flatRu_get : ∀ (xs : List Ru) (k : Nat), k < xs.length → (flatRu xs).getD (k * 5) 0 = (xs.getD k ru0).1 ∧ (flatRu xs).getD (k * 5 + 1) 0 = (xs.getD k ru0).2.1 ∧ (flatRu xs).getD (k * 5 + 2) 0 = (xs.getD k ru0).2.2.1 ∧ (flatRu xs).getD (k * 5 + 3) 0 = (xs.getD k ru0).2.2.2.1 ∧ (flatRu xs).getD (k * 5 + 4) 0 = (xs.getD k ru0).2.2.2.2 := by
  intro xs
  induction xs with
  | nil => intro k h; simp at h
  | cons h t ih =>
    intro k hk
    cases k with
    | zero => exact ⟨rfl, rfl, rfl, rfl, rfl⟩
    | succ k =>
      have := ih k (by simpa using hk)
      rw [show (k + 1) * 5 = k * 5 + 1 + 1 + 1 + 1 + 1 from by omega]
      exact this
theorem flatRu_take (xs : List Ru) (k : Nat) : (flatRu xs).take (k * 5) = flatRu (xs.take k) := by
  induction xs generalizing k with
  | nil => simp [flatRu]
  | cons h t ih =>
    cases k with
    | zero => rfl
    | succ k =>
      rw [show (k + 1) * 5 = k * 5 + 1 + 1 + 1 + 1 + 1 from by omega]
      show h.1 :: h.2.1 :: h.2.2.1 :: h.2.2.2.1 :: h.2.2.2.2 :: (flatRu t).take (k * 5) = _
      rw [ih]; rfl
theorem flatRu_drop (xs : List Ru) (k : Nat) : (flatRu xs).drop (k * 5) = flatRu (xs.drop k) := by
  induction xs generalizing k with
  | nil => simp [flatRu]
  | cons h t ih =>
    cases k with
    | zero => rfl
    | succ k =>
      rw [show (k + 1) * 5 = k * 5 + 1 + 1 + 1 + 1 + 1 from by omega]
      show (flatRu t).drop (k * 5) = _
      rw [ih]; rfl
/-- Rules xs, read through a slice at address a -/
def IsRu (w : World) (a : Option Addr) (xs : List Ru) : Prop := xs = [] ∨ ∃ g o, a = some ⟨g, o, none⟩ ∧ ∀ i, i < xs.length → w.cell? ⟨g, o + i * 5, none⟩ = some (.int .i64 (xs.getD i ru0).1) ∧ w.cell? ⟨g, o + i * 5 + 1, none⟩ = some (.int .i64 (xs.getD i ru0).2.1) ∧ w.cell? ⟨g, o + i * 5 + 2, none⟩ = some (.int .i64 (xs.getD i ru0).2.2.1) ∧ w.cell? ⟨g, o + i * 5 + 3, none⟩ = some (.int .i64 (xs.getD i ru0).2.2.2.1) ∧ w.cell? ⟨g, o + i * 5 + 4, none⟩ = some (.int .i64 (xs.getD i ru0).2.2.2.2)
theorem ru_below {w w' : World} {a : Option Addr} {xs : List Ru} (h : IsRu w a xs) (hB : Below w.heap.size w w') : IsRu w' a xs := by
  rcases h with h | ⟨g, o, ha, hc⟩
  · exact .inl h
  · refine .inr ⟨g, o, ha, fun i hi => ?_⟩
    obtain ⟨c0, c1, c2, c3, c4⟩ := hc i hi
    have kp : ∀ p v, w.cell? ⟨g, p, none⟩ = some v → w'.cell? ⟨g, p, none⟩ = some v := fun p v c => (hB.cell (p := ⟨g, p, none⟩) (World.block_lt_of_cell? w _ c)).trans c
    exact ⟨kp _ _ c0, kp _ _ c1, kp _ _ c2, kp _ _ c3, kp _ _ c4⟩
theorem ru_at {w wr : World} {g o : Nat} {xs : List Ru} (hc : ∀ i, i < xs.length → w.cell? ⟨g, o + i * 5, none⟩ = some (.int .i64 (xs.getD i ru0).1) ∧ w.cell? ⟨g, o + i * 5 + 1, none⟩ = some (.int .i64 (xs.getD i ru0).2.1) ∧ w.cell? ⟨g, o + i * 5 + 2, none⟩ = some (.int .i64 (xs.getD i ru0).2.2.1) ∧ w.cell? ⟨g, o + i * 5 + 3, none⟩ = some (.int .i64 (xs.getD i ru0).2.2.2.1) ∧ w.cell? ⟨g, o + i * 5 + 4, none⟩ = some (.int .i64 (xs.getD i ru0).2.2.2.2)) (hB : Below w.heap.size w wr) {k : Nat} (hk : k < xs.length) :
    wr.cell? ⟨g, o + k * 5, none⟩ = some (.int .i64 (xs.getD k ru0).1) ∧ wr.cell? ⟨g, o + k * 5 + 1, none⟩ = some (.int .i64 (xs.getD k ru0).2.1) ∧ wr.cell? ⟨g, o + k * 5 + 2, none⟩ = some (.int .i64 (xs.getD k ru0).2.2.1) ∧ wr.cell? ⟨g, o + k * 5 + 3, none⟩ = some (.int .i64 (xs.getD k ru0).2.2.2.1) ∧ wr.cell? ⟨g, o + k * 5 + 4, none⟩ = some (.int .i64 (xs.getD k ru0).2.2.2.2) := by
  obtain ⟨c0, c1, c2, c3, c4⟩ := hc k hk
  have kp : ∀ p v, w.cell? ⟨g, p, none⟩ = some v → wr.cell? ⟨g, p, none⟩ = some v := fun p v c => (hB.cell (p := ⟨g, p, none⟩) (World.block_lt_of_cell? w _ c)).trans c
  exact ⟨kp _ _ c0, kp _ _ c1, kp _ _ c2, kp _ _ c3, kp _ _ c4⟩
theorem Flat.ru {w : World} {g : Nat} {t : TypeId} {xs : List Ru} (h : Flat w g t (flatRu xs)) : IsRu w (some ⟨g, 0, none⟩) xs := by
  refine .inr ⟨g, 0, rfl, fun i hi => ?_⟩
  obtain ⟨a0, a1, a2, a3, a4⟩ := flatRu_get xs i hi
  have hl := flatRu_len xs
  rw [Nat.zero_add]
  exact ⟨by rw [h.cell (by omega), a0], by rw [h.cell (by omega), a1], by rw [h.cell (by omega), a2], by rw [h.cell (by omega), a3], by rw [h.cell (by omega), a4]⟩
theorem ru_take {w : World} {g o : Nat} {xs : List Ru} (hc : ∀ i, i < xs.length → w.cell? ⟨g, o + i * 5, none⟩ = some (.int .i64 (xs.getD i ru0).1) ∧ w.cell? ⟨g, o + i * 5 + 1, none⟩ = some (.int .i64 (xs.getD i ru0).2.1) ∧ w.cell? ⟨g, o + i * 5 + 2, none⟩ = some (.int .i64 (xs.getD i ru0).2.2.1) ∧ w.cell? ⟨g, o + i * 5 + 3, none⟩ = some (.int .i64 (xs.getD i ru0).2.2.2.1) ∧ w.cell? ⟨g, o + i * 5 + 4, none⟩ = some (.int .i64 (xs.getD i ru0).2.2.2.2)) (k : Nat) : IsRu w (some ⟨g, o, none⟩) (xs.take k) := by
  refine .inr ⟨g, o, rfl, fun i hi => ?_⟩
  rw [List.length_take] at hi
  have e : (xs.take k).getD i ru0 = xs.getD i ru0 := by
    rw [List.getD_eq_getElem?_getD, List.getD_eq_getElem?_getD, List.getElem?_take_of_lt (by omega)]
  rw [e]; exact hc i (by omega)
/-- the cells -/
def valsRu (xs : List Ru) : List Value := (flatRu xs).map (Value.int .i64)
theorem valsRu_len (xs : List Ru) : (valsRu xs).length = xs.length * 5 := by unfold valsRu; rw [List.length_map, flatRu_len]
theorem valsRu_append (a b : List Ru) : valsRu (a ++ b) = valsRu a ++ valsRu b := by unfold valsRu; rw [flatRu_append, List.map_append]
theorem valsRu_one (xs : List Ru) : ∀ u ∈ valsRu xs, u.oneCell' = true := fun u hu => by
  unfold valsRu at hu
  obtain ⟨z, _, rfl⟩ := List.mem_map.1 hu
  rfl
theorem valsRu_get {xs : List Ru} {k : Nat} (h : k < xs.length) : (valsRu xs)[k * 5]? = some (.int .i64 (xs.getD k ru0).1) ∧ (valsRu xs)[k * 5 + 1]? = some (.int .i64 (xs.getD k ru0).2.1) ∧ (valsRu xs)[k * 5 + 2]? = some (.int .i64 (xs.getD k ru0).2.2.1) ∧ (valsRu xs)[k * 5 + 3]? = some (.int .i64 (xs.getD k ru0).2.2.2.1) ∧ (valsRu xs)[k * 5 + 4]? = some (.int .i64 (xs.getD k ru0).2.2.2.2) := by
  obtain ⟨a0, a1, a2, a3, a4⟩ := flatRu_get xs k h
  have hl := flatRu_len xs
  have get : ∀ j, j < (flatRu xs).length → (valsRu xs)[j]? = some (.int .i64 ((flatRu xs).getD j 0)) := fun j hj => by
    unfold valsRu
    rw [List.getElem?_map, List.getElem?_eq_getElem hj, List.getD_eq_getElem?_getD, List.getElem?_eq_getElem hj]; rfl
  rw [get _ (by omega), get _ (by omega), get _ (by omega), get _ (by omega), get _ (by omega), a0, a1, a2, a3, a4]
  exact ⟨rfl, rfl, rfl, rfl, rfl⟩
theorem ru_reads {w : World} {a : Option Addr} {xs : List Ru} (h : IsRu w a xs) : Reads w w.heap.size 5 a xs.length (valsRu xs) := by
  refine ⟨valsRu_len xs, fun hn => ?_⟩
  rcases h with rfl | ⟨g, o, rfl, hc⟩
  · exact absurd hn (by simp)
  · refine ⟨⟨g, o, none⟩, rfl, ?_, fun j u hu => ?_⟩
    · exact World.block_lt_of_cell? w _ (hc 0 hn).1
    · have hl := valsRu_len xs
      have hj : j < (valsRu xs).length := by
        rcases Nat.lt_or_ge j (valsRu xs).length with h | h
        · exact h
        · rw [List.getElem?_eq_none h] at hu; cases hu
      have hk : j / 5 < xs.length := by omega
      obtain ⟨c0, c1, c2, c3, c4⟩ := hc _ hk
      obtain ⟨v0, v1, v2, v3, v4⟩ := valsRu_get hk
      have hm : j % 5 = 0 ∨ j % 5 = 1 ∨ j % 5 = 2 ∨ j % 5 = 3 ∨ j % 5 = 4 := by omega
      rw [add_off]
      rcases hm with e | e | e | e | e
      · have ej : j = j / 5 * 5 := by omega
        rw [ej] at hu ⊢; rw [v0] at hu; rw [c0, ← hu]
      · have ej : j = j / 5 * 5 + 1 := by omega
        rw [ej] at hu ⊢; rw [v1] at hu; rw [← Nat.add_assoc, c1, ← hu]
      · have ej : j = j / 5 * 5 + 2 := by omega
        rw [ej] at hu ⊢; rw [v2] at hu; rw [← Nat.add_assoc, c2, ← hu]
      · have ej : j = j / 5 * 5 + 3 := by omega
        rw [ej] at hu ⊢; rw [v3] at hu; rw [← Nat.add_assoc, c3, ← hu]
      · have ej : j = j / 5 * 5 + 4 := by omega
        rw [ej] at hu ⊢; rw [v4] at hu; rw [← Nat.add_assoc, c4, ← hu]
theorem reads_ru {w : World} {B : Nat} {a : Option Addr} {xs : List Ru} (h : Reads w B 5 a xs.length (valsRu xs)) (hsp : ∀ ad, a = some ad → ad.spot = none) : IsRu w a xs := by
  by_cases hn : xs = []
  · exact .inl hn
  · obtain ⟨ad, rfl, _, hc⟩ := h.2 (by cases xs with | nil => exact absurd rfl hn | cons _ _ => simp)
    obtain ⟨g, o, sp⟩ := ad
    obtain rfl : sp = none := hsp _ rfl
    refine .inr ⟨g, o, rfl, fun i hi => ?_⟩
    obtain ⟨v0, v1, v2, v3, v4⟩ := valsRu_get hi
    have e0 := hc _ _ v0
    have e1 := hc _ _ v1
    have e2 := hc _ _ v2
    have e3 := hc _ _ v3
    have e4 := hc _ _ v4
    rw [add_off] at e0 e1 e2 e3 e4
    rw [← Nat.add_assoc] at e1 e2 e3 e4
    exact ⟨e0, e1, e2, e3, e4⟩
theorem infoRu : (Try.prog.info? 46).map (fun i => (i.zero, i.size, i.bytes)) = some (some (.agg #[.int .i64 0, .int .i64 0, .int .i64 0, .int .i64 0, .int .i64 0]), 5, 40) := by kernel_rfl
/-- a row of the call's own that holds xs -/
def OwnRu (w : World) (base : Nat) (v : Value) (xs : List Ru) : Prop := w.ownsRow base 46 5 v xs.length (valsRu xs)
theorem own_ru {w : World} {base : Nat} {v : Value} {xs : List Ru} (h : OwnRu w base v xs) : ∃ (b : Option Addr) (cap : Nat), v = .slice b xs.length cap ∧ IsRu w b xs := by
  have h0 := h
  rcases h.2 with ⟨hv, hn⟩ | ⟨g, cap, cur, hv, _⟩
  · exact ⟨none, 0, by rw [hv, hn], .inl (List.eq_nil_of_length_eq_zero hn)⟩
  · subst hv
    exact ⟨some ⟨g, 0, none⟩, cap, rfl, reads_ru (Reads.of_own h0) (fun ad e => by injection e with e; rw [← e])⟩

/-- a slice of Rules that came in -/
def RuIn (w : World) (a : Option Addr) (len cap : Nat) (xs : List Ru) : Prop := xs.length = len ∧ IsRu w a xs ∧ len ≤ cap ∧ cap ≤ maxLen
theorem trod_struct5 {H : Type} {enc : TypeId × Value → H} {w : World} {base : Nat} {spare : Nat → Bool} {held : Bool} {t : TypeId} {f0 f1 f2 f3 f4 : Field} {fuel : Nat} {cs : List Value} {x : DataW H × List MemPlace} (ht : Try.prog.underlying t = some (.struct #[f0, f1, f2, f3, f4])) (h : DataW.trod enc Try.prog w base spare held fuel t cs = some x) :
    ∃ y0 y1 y2 y3 y4 n, cs.length = Try.prog.cellsOf t ∧ DataW.trod enc Try.prog w base spare held n f0.type ((cs.drop f0.offset).take (Try.prog.cellsOf f0.type)) = some y0 ∧
      DataW.trod enc Try.prog w base spare held n f1.type ((cs.drop f1.offset).take (Try.prog.cellsOf f1.type)) = some y1 ∧ DataW.trod enc Try.prog w base spare held n f2.type ((cs.drop f2.offset).take (Try.prog.cellsOf f2.type)) = some y2 ∧
      DataW.trod enc Try.prog w base spare held n f3.type ((cs.drop f3.offset).take (Try.prog.cellsOf f3.type)) = some y3 ∧ DataW.trod enc Try.prog w base spare held n f4.type ((cs.drop f4.offset).take (Try.prog.cellsOf f4.type)) = some y4 := by
  obtain ⟨xs, n, _, rfl, hl, hlen, hf⟩ := DataW.trod_struct ht h
  match xs, hlen with
  | [y0, y1, y2, y3, y4], _ => exact ⟨y0, y1, y2, y3, y4, n, hl, by simpa using hf 0 f0 rfl, by simpa using hf 1 f1 rfl, by simpa using hf 2 f2 rfl, by simpa using hf 3 f3 rfl, by simpa using hf 4 f4 rfl⟩
set_option maxRecDepth 100000 in
theorem open_ru {H : Type} {enc : TypeId × Value → H} {w : World} {base : Nat} {spare : Nat → Bool} {held : Bool} {fuel : Nat} {cs : List Value} {x : DataW H × List MemPlace} (h : DataW.trod enc Try.prog w base spare held fuel 59 cs = some x) : ∃ x0 x1 x2 x3 x4 : Int, cs = [.int .i64 x0, .int .i64 x1, .int .i64 x2, .int .i64 x3, .int .i64 x4] := by
  obtain ⟨y0, y1, y2, y3, y4, n', hl, h0, h1, h2, h3, h4⟩ := trod_struct5 Try.underlying59 h
  obtain ⟨x0, e0, _, _⟩ := DataW.trod_int Try.underlying3 h0
  obtain ⟨x1, e1, _, _⟩ := DataW.trod_int Try.underlying3 h1
  obtain ⟨x2, e2, _, _⟩ := DataW.trod_int Try.underlying3 h2
  obtain ⟨x3, e3, _, _⟩ := DataW.trod_int Try.underlying3 h3
  obtain ⟨x4, e4, _, _⟩ := DataW.trod_int Try.underlying3 h4
  have hc : Try.prog.cellsOf 59 = 5 := by kernel_rfl
  have hi : Try.prog.cellsOf 3 = 1 := by kernel_rfl
  have hl := hl.trans hc
  dsimp only at e0 e1 e2 e3 e4
  rw [hi] at e0 e1 e2 e3 e4
  match cs, hl with
  | [a0, a1, a2, a3, a4], _ =>
    refine ⟨x0, x1, x2, x3, x4, ?_⟩
    simp at e0 e1 e2 e3 e4
    rw [e0, e1, e2, e3, e4]
set_option maxRecDepth 100000 in
theorem open_rus {H : Type} {enc : TypeId × Value → H} {w : World} {base : Nat} {spare : Nat → Bool} {held : Bool} {fuel : Nat} {a : Option Addr} {len cap : Nat} {x : DataW H × List MemPlace} (h : DataW.trod enc Try.prog w base spare held fuel 31 [.slice a len cap] = some x) : ∃ xs, RuIn w a len cap xs := by
  rcases open_slice Try.underlying31 h with ⟨hcs, _⟩ | ⟨ad, l, c, m, n', D, Pl, hcs, hb, hl, hm, hmm, hx, hi⟩
  · simp at hcs
    obtain ⟨rfl, rfl, rfl⟩ := hcs
    exact ⟨[], rfl, .inl rfl, Nat.le_refl _, Nat.zero_le _⟩
  · simp at hcs
    obtain ⟨rfl, rfl, rfl⟩ := hcs
    have hc : Try.prog.cellsOf 59 = 5 := by kernel_rfl
    have hmn : len ≤ m := by rw [hmm]; split <;> omega
    have each : ∀ i, i < len → ∃ z : Ru, w.cell? (ad.add (i * 5)) = some (.int .i64 z.1) ∧ w.cell? (ad.add (i * 5 + 1)) = some (.int .i64 z.2.1) ∧ w.cell? (ad.add (i * 5 + 2)) = some (.int .i64 z.2.2.1) ∧ w.cell? (ad.add (i * 5 + 3)) = some (.int .i64 z.2.2.2.1) ∧ w.cell? (ad.add (i * 5 + 4)) = some (.int .i64 z.2.2.2.2) := fun i hin => by
      obtain ⟨cs', h1, h2⟩ := hi i (by omega)
      obtain ⟨x0, x1, x2, x3, x4, rfl⟩ := open_ru h2
      rw [hc] at h1
      obtain ⟨_, _, hat⟩ := World.cells?_some h1
      have a0 := hat 0 (by omega)
      have a1 := hat 1 (by omega)
      have a2 := hat 2 (by omega)
      have a3 := hat 3 (by omega)
      have a4 := hat 4 (by omega)
      rw [add_add] at a0 a1 a2 a3 a4
      exact ⟨(x0, x1, x2, x3, x4), a0, a1, a2, a3, a4⟩
    obtain ⟨f, hf⟩ : ∃ f : Nat → Ru, ∀ i, i < len → w.cell? (ad.add (i * 5)) = some (.int .i64 (f i).1) ∧ w.cell? (ad.add (i * 5 + 1)) = some (.int .i64 (f i).2.1) ∧ w.cell? (ad.add (i * 5 + 2)) = some (.int .i64 (f i).2.2.1) ∧ w.cell? (ad.add (i * 5 + 3)) = some (.int .i64 (f i).2.2.2.1) ∧ w.cell? (ad.add (i * 5 + 4)) = some (.int .i64 (f i).2.2.2.2) :=
      ⟨fun i => if hh : i < len then Classical.choose (each i hh) else ru0, fun i hh => by simp only [dif_pos hh]; exact Classical.choose_spec (each i hh)⟩
    refine ⟨(List.range len).map f, by simp, ?_, hl, hm⟩
    by_cases h0 : len = 0
    · subst h0; exact .inl rfl
    · obtain ⟨b, off, spot⟩ := ad
      have hsp := (hf 0 (by omega)).1
      have hspot : spot = none := by simpa [Addr.add] using World.cell?_spot hsp
      subst hspot
      refine .inr ⟨b, off, rfl, fun i hin => ?_⟩
      have hin' : i < len := by simpa using hin
      have e : ((List.range len).map f).getD i ru0 = f i := by
        rw [List.getD_eq_getElem?_getD, List.getElem?_map, List.getElem?_range hin']; rfl
      obtain ⟨q0, q1, q2, q3, q4⟩ := hf i hin'
      rw [add_off] at q0 q1 q2 q3 q4
      rw [e]
      exact ⟨q0, by rw [Nat.add_assoc]; exact q1, by rw [Nat.add_assoc]; exact q2, by rw [Nat.add_assoc]; exact q3, by rw [Nat.add_assoc]; exact q4⟩
end Go.Proofs.Ytigapnbpgbfbhab
