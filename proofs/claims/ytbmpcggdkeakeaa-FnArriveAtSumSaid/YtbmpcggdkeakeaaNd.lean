/- Nodes as they lie in memory (5 integers each), and as they come in. No condition. -/
import Derived.Test.YtbmpcggdkeakeaaFlat
import Derived.Deep.Slices
import Derived.ChangeSame
import Derived.ChangeArms
import Derived.ProofKit
namespace Go.Proofs.Ytbmpcggdkeakeaa
open Go.ChangeShapes Go.WideShapes Go.RowKit Go.Deep

abbrev Nd := Int × Int × Int × Int × Int
abbrev nd0 : Nd := (0, 0, 0, 0, 0)
/-- the numbers, one after the other -/
def flatNd : List Nd → List Int
  | [] => []
  | h :: t => h.1 :: h.2.1 :: h.2.2.1 :: h.2.2.2.1 :: h.2.2.2.2 :: flatNd t
theorem flatNd_len : ∀ xs : List Nd, (flatNd xs).length = xs.length * 5 := by
  intro xs
  induction xs with
  | nil => rfl
  | cons h t ih => show (flatNd t).length + 1 + 1 + 1 + 1 + 1 = (t.length + 1) * 5; rw [ih]; omega
theorem flatNd_append : ∀ a b : List Nd, flatNd (a ++ b) = flatNd a ++ flatNd b := by
  intro a b
  induction a with
  | nil => rfl
  | cons h t ih => show h.1 :: h.2.1 :: h.2.2.1 :: h.2.2.2.1 :: h.2.2.2.2 :: flatNd (t ++ b) = _; rw [ih]; rfl
theorem flatNd_get : ∀ (xs : List Nd) (k : Nat), k < xs.length → (flatNd xs).getD (k * 5) 0 = (xs.getD k nd0).1 ∧ (flatNd xs).getD (k * 5 + 1) 0 = (xs.getD k nd0).2.1 ∧ (flatNd xs).getD (k * 5 + 2) 0 = (xs.getD k nd0).2.2.1 ∧ (flatNd xs).getD (k * 5 + 3) 0 = (xs.getD k nd0).2.2.2.1 ∧ (flatNd xs).getD (k * 5 + 4) 0 = (xs.getD k nd0).2.2.2.2 := by
  intro xs
  induction xs with
  | nil => intro k h; simp at h
  | cons h t ih =>
    intro k hk
    cases k with
    | zero => exact ⟨rfl, rfl, rfl, rfl, rfl⟩
    | succ k =>
      have := ih k (by simpa using hk)
      rw [show (k + 1) * 5 = k * 5 + 1 + 1 + 1 + 1 + 1 from by omega]
      exact this
theorem flatNd_take (xs : List Nd) (k : Nat) : (flatNd xs).take (k * 5) = flatNd (xs.take k) := by
  induction xs generalizing k with
  | nil => simp [flatNd]
  | cons h t ih =>
    cases k with
    | zero => rfl
    | succ k =>
      rw [show (k + 1) * 5 = k * 5 + 1 + 1 + 1 + 1 + 1 from by omega]
      show h.1 :: h.2.1 :: h.2.2.1 :: h.2.2.2.1 :: h.2.2.2.2 :: (flatNd t).take (k * 5) = _
      rw [ih]; rfl
theorem flatNd_drop (xs : List Nd) (k : Nat) : (flatNd xs).drop (k * 5) = flatNd (xs.drop k) := by
  induction xs generalizing k with
  | nil => simp [flatNd]
  | cons h t ih =>
    cases k with
    | zero => rfl
    | succ k =>
      rw [show (k + 1) * 5 = k * 5 + 1 + 1 + 1 + 1 + 1 from by omega]
      show (flatNd t).drop (k * 5) = _
      rw [ih]; rfl
/-- Nodes xs, read through a slice at address a -/
def IsNd (w : World) (a : Option Addr) (xs : List Nd) : Prop := xs = [] ∨ ∃ g o, a = some ⟨g, o, none⟩ ∧ ∀ i, i < xs.length → w.cell? ⟨g, o + i * 5, none⟩ = some (.int .i64 (xs.getD i nd0).1) ∧ w.cell? ⟨g, o + i * 5 + 1, none⟩ = some (.int .i64 (xs.getD i nd0).2.1) ∧ w.cell? ⟨g, o + i * 5 + 2, none⟩ = some (.int .i64 (xs.getD i nd0).2.2.1) ∧ w.cell? ⟨g, o + i * 5 + 3, none⟩ = some (.int .i64 (xs.getD i nd0).2.2.2.1) ∧ w.cell? ⟨g, o + i * 5 + 4, none⟩ = some (.int .i64 (xs.getD i nd0).2.2.2.2)
theorem nd_below {w w' : World} {a : Option Addr} {xs : List Nd} (h : IsNd w a xs) (hB : Below w.heap.size w w') : IsNd w' a xs := by
  rcases h with h | ⟨g, o, ha, hc⟩
  · exact .inl h
  · refine .inr ⟨g, o, ha, fun i hi => ?_⟩
    obtain ⟨c0, c1, c2, c3, c4⟩ := hc i hi
    have kp : ∀ p v, w.cell? ⟨g, p, none⟩ = some v → w'.cell? ⟨g, p, none⟩ = some v := fun p v c => (hB.cell (p := ⟨g, p, none⟩) (World.block_lt_of_cell? w _ c)).trans c
    exact ⟨kp _ _ c0, kp _ _ c1, kp _ _ c2, kp _ _ c3, kp _ _ c4⟩
theorem nd_at {w wr : World} {g o : Nat} {xs : List Nd} (hc : ∀ i, i < xs.length → w.cell? ⟨g, o + i * 5, none⟩ = some (.int .i64 (xs.getD i nd0).1) ∧ w.cell? ⟨g, o + i * 5 + 1, none⟩ = some (.int .i64 (xs.getD i nd0).2.1) ∧ w.cell? ⟨g, o + i * 5 + 2, none⟩ = some (.int .i64 (xs.getD i nd0).2.2.1) ∧ w.cell? ⟨g, o + i * 5 + 3, none⟩ = some (.int .i64 (xs.getD i nd0).2.2.2.1) ∧ w.cell? ⟨g, o + i * 5 + 4, none⟩ = some (.int .i64 (xs.getD i nd0).2.2.2.2)) (hB : Below w.heap.size w wr) {k : Nat} (hk : k < xs.length) :
    wr.cell? ⟨g, o + k * 5, none⟩ = some (.int .i64 (xs.getD k nd0).1) ∧ wr.cell? ⟨g, o + k * 5 + 1, none⟩ = some (.int .i64 (xs.getD k nd0).2.1) ∧ wr.cell? ⟨g, o + k * 5 + 2, none⟩ = some (.int .i64 (xs.getD k nd0).2.2.1) ∧ wr.cell? ⟨g, o + k * 5 + 3, none⟩ = some (.int .i64 (xs.getD k nd0).2.2.2.1) ∧ wr.cell? ⟨g, o + k * 5 + 4, none⟩ = some (.int .i64 (xs.getD k nd0).2.2.2.2) := by
  obtain ⟨c0, c1, c2, c3, c4⟩ := hc k hk
  have kp : ∀ p v, w.cell? ⟨g, p, none⟩ = some v → wr.cell? ⟨g, p, none⟩ = some v := fun p v c => (hB.cell (p := ⟨g, p, none⟩) (World.block_lt_of_cell? w _ c)).trans c
  exact ⟨kp _ _ c0, kp _ _ c1, kp _ _ c2, kp _ _ c3, kp _ _ c4⟩
theorem Flat.nd {w : World} {g : Nat} {t : TypeId} {xs : List Nd} (h : Flat w g t (flatNd xs)) : IsNd w (some ⟨g, 0, none⟩) xs := by
  refine .inr ⟨g, 0, rfl, fun i hi => ?_⟩
  obtain ⟨a0, a1, a2, a3, a4⟩ := flatNd_get xs i hi
  have hl := flatNd_len xs
  rw [Nat.zero_add]
  exact ⟨by rw [h.cell (by omega), a0], by rw [h.cell (by omega), a1], by rw [h.cell (by omega), a2], by rw [h.cell (by omega), a3], by rw [h.cell (by omega), a4]⟩
theorem nd_take {w : World} {g o : Nat} {xs : List Nd} (hc : ∀ i, i < xs.length → w.cell? ⟨g, o + i * 5, none⟩ = some (.int .i64 (xs.getD i nd0).1) ∧ w.cell? ⟨g, o + i * 5 + 1, none⟩ = some (.int .i64 (xs.getD i nd0).2.1) ∧ w.cell? ⟨g, o + i * 5 + 2, none⟩ = some (.int .i64 (xs.getD i nd0).2.2.1) ∧ w.cell? ⟨g, o + i * 5 + 3, none⟩ = some (.int .i64 (xs.getD i nd0).2.2.2.1) ∧ w.cell? ⟨g, o + i * 5 + 4, none⟩ = some (.int .i64 (xs.getD i nd0).2.2.2.2)) (k : Nat) : IsNd w (some ⟨g, o, none⟩) (xs.take k) := by
  refine .inr ⟨g, o, rfl, fun i hi => ?_⟩
  rw [List.length_take] at hi
  have e : (xs.take k).getD i nd0 = xs.getD i nd0 := by
    rw [List.getD_eq_getElem?_getD, List.getD_eq_getElem?_getD, List.getElem?_take_of_lt (by omega)]
  rw [e]; exact hc i (by omega)
/-- the cells -/
def valsNd (xs : List Nd) : List Value := (flatNd xs).map (Value.int .i64)
theorem valsNd_len (xs : List Nd) : (valsNd xs).length = xs.length * 5 := by unfold valsNd; rw [List.length_map, flatNd_len]
theorem valsNd_append (a b : List Nd) : valsNd (a ++ b) = valsNd a ++ valsNd b := by unfold valsNd; rw [flatNd_append, List.map_append]
theorem valsNd_one (xs : List Nd) : ∀ u ∈ valsNd xs, u.oneCell' = true := fun u hu => by
  unfold valsNd at hu
  obtain ⟨z, _, rfl⟩ := List.mem_map.1 hu
  rfl
theorem valsNd_get {xs : List Nd} {k : Nat} (h : k < xs.length) : (valsNd xs)[k * 5]? = some (.int .i64 (xs.getD k nd0).1) ∧ (valsNd xs)[k * 5 + 1]? = some (.int .i64 (xs.getD k nd0).2.1) ∧ (valsNd xs)[k * 5 + 2]? = some (.int .i64 (xs.getD k nd0).2.2.1) ∧ (valsNd xs)[k * 5 + 3]? = some (.int .i64 (xs.getD k nd0).2.2.2.1) ∧ (valsNd xs)[k * 5 + 4]? = some (.int .i64 (xs.getD k nd0).2.2.2.2) := by
  obtain ⟨a0, a1, a2, a3, a4⟩ := flatNd_get xs k h
  have hl := flatNd_len xs
  have get : ∀ j, j < (flatNd xs).length → (valsNd xs)[j]? = some (.int .i64 ((flatNd xs).getD j 0)) := fun j hj => by
    unfold valsNd
    rw [List.getElem?_map, List.getElem?_eq_getElem hj, List.getD_eq_getElem?_getD, List.getElem?_eq_getElem hj]; rfl
  rw [get _ (by omega), get _ (by omega), get _ (by omega), get _ (by omega), get _ (by omega), a0, a1, a2, a3, a4]
  exact ⟨rfl, rfl, rfl, rfl, rfl⟩
theorem nd_reads {w : World} {a : Option Addr} {xs : List Nd} (h : IsNd w a xs) : Reads w w.heap.size 5 a xs.length (valsNd xs) := by
  refine ⟨valsNd_len xs, fun hn => ?_⟩
  rcases h with rfl | ⟨g, o, rfl, hc⟩
  · exact absurd hn (by simp)
  · refine ⟨⟨g, o, none⟩, rfl, ?_, fun j u hu => ?_⟩
    · exact World.block_lt_of_cell? w _ (hc 0 hn).1
    · have hl := valsNd_len xs
      have hj : j < (valsNd xs).length := by
        rcases Nat.lt_or_ge j (valsNd xs).length with h | h
        · exact h
        · rw [List.getElem?_eq_none h] at hu; cases hu
      have hk : j / 5 < xs.length := by omega
      obtain ⟨c0, c1, c2, c3, c4⟩ := hc _ hk
      obtain ⟨v0, v1, v2, v3, v4⟩ := valsNd_get hk
      have hm : j % 5 = 0 ∨ j % 5 = 1 ∨ j % 5 = 2 ∨ j % 5 = 3 ∨ j % 5 = 4 := by omega
      rw [add_off]
      rcases hm with e | e | e | e | e
      · have ej : j = j / 5 * 5 := by omega
        rw [ej] at hu ⊢; rw [v0] at hu; rw [c0, ← hu]
      · have ej : j = j / 5 * 5 + 1 := by omega
        rw [ej] at hu ⊢; rw [v1] at hu; rw [← Nat.add_assoc, c1, ← hu]
      · have ej : j = j / 5 * 5 + 2 := by omega
        rw [ej] at hu ⊢; rw [v2] at hu; rw [← Nat.add_assoc, c2, ← hu]
      · have ej : j = j / 5 * 5 + 3 := by omega
        rw [ej] at hu ⊢; rw [v3] at hu; rw [← Nat.add_assoc, c3, ← hu]
      · have ej : j = j / 5 * 5 + 4 := by omega
        rw [ej] at hu ⊢; rw [v4] at hu; rw [← Nat.add_assoc, c4, ← hu]
theorem reads_nd {w : World} {B : Nat} {a : Option Addr} {xs : List Nd} (h : Reads w B 5 a xs.length (valsNd xs)) (hsp : ∀ ad, a = some ad → ad.spot = none) : IsNd w a xs := by
  by_cases hn : xs = []
  · exact .inl hn
  · obtain ⟨ad, rfl, _, hc⟩ := h.2 (by cases xs with | nil => exact absurd rfl hn | cons _ _ => simp)
    obtain ⟨g, o, sp⟩ := ad
    obtain rfl : sp = none := hsp _ rfl
    refine .inr ⟨g, o, rfl, fun i hi => ?_⟩
    obtain ⟨v0, v1, v2, v3, v4⟩ := valsNd_get hi
    have e0 := hc _ _ v0
    have e1 := hc _ _ v1
    have e2 := hc _ _ v2
    have e3 := hc _ _ v3
    have e4 := hc _ _ v4
    rw [add_off] at e0 e1 e2 e3 e4
    rw [← Nat.add_assoc] at e1 e2 e3 e4
    exact ⟨e0, e1, e2, e3, e4⟩
theorem infoNd : (Try.prog.info? 33).map (fun i => (i.zero, i.size, i.bytes)) = some (some (.agg #[.int .i64 0, .int .i64 0, .int .i64 0, .int .i64 0, .int .i64 0]), 5, 40) := by kernel_rfl
/-- a row of the call's own that holds xs -/
def OwnNd (w : World) (base : Nat) (v : Value) (xs : List Nd) : Prop := w.ownsRow base 33 5 v xs.length (valsNd xs)
theorem own_nd {w : World} {base : Nat} {v : Value} {xs : List Nd} (h : OwnNd w base v xs) : ∃ (b : Option Addr) (cap : Nat), v = .slice b xs.length cap ∧ IsNd w b xs := by
  have h0 := h
  rcases h.2 with ⟨hv, hn⟩ | ⟨g, cap, cur, hv, _⟩
  · exact ⟨none, 0, by rw [hv, hn], .inl (List.eq_nil_of_length_eq_zero hn)⟩
  · subst hv
    exact ⟨some ⟨g, 0, none⟩, cap, rfl, reads_nd (Reads.of_own h0) (fun ad e => by injection e with e; rw [← e])⟩

/-- a slice of Nodes that came in -/
def NdIn (w : World) (a : Option Addr) (len cap : Nat) (xs : List Nd) : Prop := xs.length = len ∧ IsNd w a xs ∧ len ≤ cap ∧ cap ≤ maxLen
theorem trod_struct5 {H : Type} {enc : TypeId × Value → H} {w : World} {base : Nat} {spare : Nat → Bool} {held : Bool} {t : TypeId} {f0 f1 f2 f3 f4 : Field} {fuel : Nat} {cs : List Value} {x : DataW H × List MemPlace} (ht : Try.prog.underlying t = some (.struct #[f0, f1, f2, f3, f4])) (h : DataW.trod enc Try.prog w base spare held fuel t cs = some x) :
    ∃ y0 y1 y2 y3 y4 n, cs.length = Try.prog.cellsOf t ∧ DataW.trod enc Try.prog w base spare held n f0.type ((cs.drop f0.offset).take (Try.prog.cellsOf f0.type)) = some y0 ∧
      DataW.trod enc Try.prog w base spare held n f1.type ((cs.drop f1.offset).take (Try.prog.cellsOf f1.type)) = some y1 ∧ DataW.trod enc Try.prog w base spare held n f2.type ((cs.drop f2.offset).take (Try.prog.cellsOf f2.type)) = some y2 ∧
      DataW.trod enc Try.prog w base spare held n f3.type ((cs.drop f3.offset).take (Try.prog.cellsOf f3.type)) = some y3 ∧ DataW.trod enc Try.prog w base spare held n f4.type ((cs.drop f4.offset).take (Try.prog.cellsOf f4.type)) = some y4 := by
  obtain ⟨xs, n, _, rfl, hl, hlen, hf⟩ := DataW.trod_struct ht h
  match xs, hlen with
  | [y0, y1, y2, y3, y4], _ => exact ⟨y0, y1, y2, y3, y4, n, hl, by simpa using hf 0 f0 rfl, by simpa using hf 1 f1 rfl, by simpa using hf 2 f2 rfl, by simpa using hf 3 f3 rfl, by simpa using hf 4 f4 rfl⟩
end Go.Proofs.Ytbmpcggdkeakeaa
