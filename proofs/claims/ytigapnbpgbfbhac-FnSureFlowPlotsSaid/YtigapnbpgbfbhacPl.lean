/- Plots as they lie in memory (2 integers each), and as they come in. No condition. -/
import Derived.Test.YtigapnbpgbfbhacGrA
import Derived.Deep.Slices
import Derived.ChangeSame
import Derived.ChangeArms
import Derived.ProofKit
namespace Go.Proofs.Ytigapnbpgbfbhac
open Go.ChangeShapes Go.WideShapes Go.RowKit Go.Deep

abbrev Pl := Int × Int
abbrev pl0 : Pl := (0, 0)
/-- the numbers, one after the other -/
def flatPl : List Pl → List Int
  | [] => []
  | h :: t => h.1 :: h.2 :: flatPl t
theorem flatPl_len : ∀ xs : List Pl, (flatPl xs).length = xs.length * 2 := by
  intro xs
  induction xs with
  | nil => rfl
  | cons h t ih => show (flatPl t).length + 1 + 1 = (t.length + 1) * 2; rw [ih]; omega
theorem flatPl_append : ∀ a b : List Pl, flatPl (a ++ b) = flatPl a ++ flatPl b := by
  intro a b
  induction a with
  | nil => rfl
  | cons h t ih => show h.1 :: h.2 :: flatPl (t ++ b) = _; rw [ih]; rfl
theorem flatPl_get : ∀ (xs : List Pl) (k : Nat), k < xs.length → (flatPl xs).getD (k * 2) 0 = (xs.getD k pl0).1 ∧ (flatPl xs).getD (k * 2 + 1) 0 = (xs.getD k pl0).2 := by
  intro xs
  induction xs with
  | nil => intro k h; simp at h
  | cons h t ih =>
    intro k hk
    cases k with
    | zero => exact ⟨rfl, rfl⟩
    | succ k =>
      have := ih k (by simpa using hk)
      rw [show (k + 1) * 2 = k * 2 + 1 + 1 from by omega]
      exact this
theorem flatPl_take (xs : List Pl) (k : Nat) : (flatPl xs).take (k * 2) = flatPl (xs.take k) := by
  induction xs generalizing k with
  | nil => simp [flatPl]
  | cons h t ih =>
    cases k with
    | zero => rfl
    | succ k =>
      rw [show (k + 1) * 2 = k * 2 + 1 + 1 from by omega]
      show h.1 :: h.2 :: (flatPl t).take (k * 2) = _
      rw [ih]; rfl
theorem flatPl_drop (xs : List Pl) (k : Nat) : (flatPl xs).drop (k * 2) = flatPl (xs.drop k) := by
  induction xs generalizing k with
  | nil => simp [flatPl]
  | cons h t ih =>
    cases k with
    | zero => rfl
    | succ k =>
      rw [show (k + 1) * 2 = k * 2 + 1 + 1 from by omega]
      show (flatPl t).drop (k * 2) = _
      rw [ih]; rfl
/-- Plots xs, read through a slice at address a -/
def IsPl (w : World) (a : Option Addr) (xs : List Pl) : Prop := xs = [] ∨ ∃ g o, a = some ⟨g, o, none⟩ ∧ ∀ i, i < xs.length → w.cell? ⟨g, o + i * 2, none⟩ = some (.int .i64 (xs.getD i pl0).1) ∧ w.cell? ⟨g, o + i * 2 + 1, none⟩ = some (.int .i64 (xs.getD i pl0).2)
theorem pl_below {w w' : World} {a : Option Addr} {xs : List Pl} (h : IsPl w a xs) (hB : Below w.heap.size w w') : IsPl w' a xs := by
  rcases h with h | ⟨g, o, ha, hc⟩
  · exact .inl h
  · refine .inr ⟨g, o, ha, fun i hi => ?_⟩
    obtain ⟨c0, c1⟩ := hc i hi
    have kp : ∀ p v, w.cell? ⟨g, p, none⟩ = some v → w'.cell? ⟨g, p, none⟩ = some v := fun p v c => (hB.cell (p := ⟨g, p, none⟩) (World.block_lt_of_cell? w _ c)).trans c
    exact ⟨kp _ _ c0, kp _ _ c1⟩
theorem pl_at {w wr : World} {g o : Nat} {xs : List Pl} (hc : ∀ i, i < xs.length → w.cell? ⟨g, o + i * 2, none⟩ = some (.int .i64 (xs.getD i pl0).1) ∧ w.cell? ⟨g, o + i * 2 + 1, none⟩ = some (.int .i64 (xs.getD i pl0).2)) (hB : Below w.heap.size w wr) {k : Nat} (hk : k < xs.length) :
    wr.cell? ⟨g, o + k * 2, none⟩ = some (.int .i64 (xs.getD k pl0).1) ∧ wr.cell? ⟨g, o + k * 2 + 1, none⟩ = some (.int .i64 (xs.getD k pl0).2) := by
  obtain ⟨c0, c1⟩ := hc k hk
  have kp : ∀ p v, w.cell? ⟨g, p, none⟩ = some v → wr.cell? ⟨g, p, none⟩ = some v := fun p v c => (hB.cell (p := ⟨g, p, none⟩) (World.block_lt_of_cell? w _ c)).trans c
  exact ⟨kp _ _ c0, kp _ _ c1⟩
theorem Flat.pl {w : World} {g : Nat} {t : TypeId} {xs : List Pl} (h : Flat w g t (flatPl xs)) : IsPl w (some ⟨g, 0, none⟩) xs := by
  refine .inr ⟨g, 0, rfl, fun i hi => ?_⟩
  obtain ⟨a0, a1⟩ := flatPl_get xs i hi
  have hl := flatPl_len xs
  rw [Nat.zero_add]
  exact ⟨by rw [h.cell (by omega), a0], by rw [h.cell (by omega), a1]⟩
theorem pl_take {w : World} {g o : Nat} {xs : List Pl} (hc : ∀ i, i < xs.length → w.cell? ⟨g, o + i * 2, none⟩ = some (.int .i64 (xs.getD i pl0).1) ∧ w.cell? ⟨g, o + i * 2 + 1, none⟩ = some (.int .i64 (xs.getD i pl0).2)) (k : Nat) : IsPl w (some ⟨g, o, none⟩) (xs.take k) := by
  refine .inr ⟨g, o, rfl, fun i hi => ?_⟩
  rw [List.length_take] at hi
  have e : (xs.take k).getD i pl0 = xs.getD i pl0 := by
    rw [List.getD_eq_getElem?_getD, List.getD_eq_getElem?_getD, List.getElem?_take_of_lt (by omega)]
  rw [e]; exact hc i (by omega)
/-- the cells -/
def valsPl (xs : List Pl) : List Value := (flatPl xs).map (Value.int .i64)
theorem valsPl_len (xs : List Pl) : (valsPl xs).length = xs.length * 2 := by unfold valsPl; rw [List.length_map, flatPl_len]
theorem valsPl_append (a b : List Pl) : valsPl (a ++ b) = valsPl a ++ valsPl b := by unfold valsPl; rw [flatPl_append, List.map_append]
theorem valsPl_one (xs : List Pl) : ∀ u ∈ valsPl xs, u.oneCell' = true := fun u hu => by
  unfold valsPl at hu
  obtain ⟨z, _, rfl⟩ := List.mem_map.1 hu
  rfl
theorem valsPl_get {xs : List Pl} {k : Nat} (h : k < xs.length) : (valsPl xs)[k * 2]? = some (.int .i64 (xs.getD k pl0).1) ∧ (valsPl xs)[k * 2 + 1]? = some (.int .i64 (xs.getD k pl0).2) := by
  obtain ⟨a0, a1⟩ := flatPl_get xs k h
  have hl := flatPl_len xs
  have get : ∀ j, j < (flatPl xs).length → (valsPl xs)[j]? = some (.int .i64 ((flatPl xs).getD j 0)) := fun j hj => by
    unfold valsPl
    rw [List.getElem?_map, List.getElem?_eq_getElem hj, List.getD_eq_getElem?_getD, List.getElem?_eq_getElem hj]; rfl
  rw [get _ (by omega), get _ (by omega), a0, a1]
  exact ⟨rfl, rfl⟩
theorem pl_reads {w : World} {a : Option Addr} {xs : List Pl} (h : IsPl w a xs) : Reads w w.heap.size 2 a xs.length (valsPl xs) := by
  refine ⟨valsPl_len xs, fun hn => ?_⟩
  rcases h with rfl | ⟨g, o, rfl, hc⟩
  · exact absurd hn (by simp)
  · refine ⟨⟨g, o, none⟩, rfl, ?_, fun j u hu => ?_⟩
    · exact World.block_lt_of_cell? w _ (hc 0 hn).1
    · have hl := valsPl_len xs
      have hj : j < (valsPl xs).length := by
        rcases Nat.lt_or_ge j (valsPl xs).length with h | h
        · exact h
        · rw [List.getElem?_eq_none h] at hu; cases hu
      have hk : j / 2 < xs.length := by omega
      obtain ⟨c0, c1⟩ := hc _ hk
      obtain ⟨v0, v1⟩ := valsPl_get hk
      have hm : j % 2 = 0 ∨ j % 2 = 1 := by omega
      rw [add_off]
      rcases hm with e | e
      · have ej : j = j / 2 * 2 := by omega
        rw [ej] at hu ⊢; rw [v0] at hu; rw [c0, ← hu]
      · have ej : j = j / 2 * 2 + 1 := by omega
        rw [ej] at hu ⊢; rw [v1] at hu; rw [← Nat.add_assoc, c1, ← hu]
theorem reads_pl {w : World} {B : Nat} {a : Option Addr} {xs : List Pl} (h : Reads w B 2 a xs.length (valsPl xs)) (hsp : ∀ ad, a = some ad → ad.spot = none) : IsPl w a xs := by
  by_cases hn : xs = []
  · exact .inl hn
  · obtain ⟨ad, rfl, _, hc⟩ := h.2 (by cases xs with | nil => exact absurd rfl hn | cons _ _ => simp)
    obtain ⟨g, o, sp⟩ := ad
    obtain rfl : sp = none := hsp _ rfl
    refine .inr ⟨g, o, rfl, fun i hi => ?_⟩
    obtain ⟨v0, v1⟩ := valsPl_get hi
    have e0 := hc _ _ v0
    have e1 := hc _ _ v1
    rw [add_off] at e0 e1
    rw [← Nat.add_assoc] at e1
    exact ⟨e0, e1⟩
theorem infoPl : (Try.prog.info? 45).map (fun i => (i.zero, i.size, i.bytes)) = some (some (.agg #[.int .i64 0, .int .i64 0]), 2, 16) := by kernel_rfl
/-- a row of the call's own that holds xs -/
def OwnPl (w : World) (base : Nat) (v : Value) (xs : List Pl) : Prop := w.ownsRow base 45 2 v xs.length (valsPl xs)
theorem own_pl {w : World} {base : Nat} {v : Value} {xs : List Pl} (h : OwnPl w base v xs) : ∃ (b : Option Addr) (cap : Nat), v = .slice b xs.length cap ∧ IsPl w b xs := by
  have h0 := h
  rcases h.2 with ⟨hv, hn⟩ | ⟨g, cap, cur, hv, _⟩
  · exact ⟨none, 0, by rw [hv, hn], .inl (List.eq_nil_of_length_eq_zero hn)⟩
  · subst hv
    exact ⟨some ⟨g, 0, none⟩, cap, rfl, reads_pl (Reads.of_own h0) (fun ad e => by injection e with e; rw [← e])⟩

/-- a slice of Plots that came in -/
def PlIn (w : World) (a : Option Addr) (len cap : Nat) (xs : List Pl) : Prop := xs.length = len ∧ IsPl w a xs ∧ len ≤ cap ∧ cap ≤ maxLen
set_option maxRecDepth 100000 in
theorem open_pl {H : Type} {enc : TypeId × Value → H} {w : World} {base : Nat} {spare : Nat → Bool} {held : Bool} {fuel : Nat} {cs : List Value} {x : DataW H × List MemPlace} (h : DataW.trod enc Try.prog w base spare held fuel 58 cs = some x) : ∃ x0 x1 : Int, cs = [.int .i64 x0, .int .i64 x1] := by
  obtain ⟨y0, y1, n', _, hl, h0, h1⟩ := trod_struct2 Try.underlying58 h
  obtain ⟨x0, e0, _, _⟩ := DataW.trod_int Try.underlying3 h0
  obtain ⟨x1, e1, _, _⟩ := DataW.trod_int Try.underlying3 h1
  have hc : Try.prog.cellsOf 58 = 2 := by kernel_rfl
  have hi : Try.prog.cellsOf 3 = 1 := by kernel_rfl
  have hl := hl.trans hc
  dsimp only at e0 e1
  rw [hi] at e0 e1
  match cs, hl with
  | [a0, a1], _ =>
    refine ⟨x0, x1, ?_⟩
    simp at e0 e1
    rw [e0, e1]
set_option maxRecDepth 100000 in
theorem open_pls {H : Type} {enc : TypeId × Value → H} {w : World} {base : Nat} {spare : Nat → Bool} {held : Bool} {fuel : Nat} {a : Option Addr} {len cap : Nat} {x : DataW H × List MemPlace} (h : DataW.trod enc Try.prog w base spare held fuel 22 [.slice a len cap] = some x) : ∃ xs, PlIn w a len cap xs := by
  rcases open_slice Try.underlying22 h with ⟨hcs, _⟩ | ⟨ad, l, c, m, n', D, Pq, hcs, hb, hl, hm, hmm, hx, hi⟩
  · simp at hcs
    obtain ⟨rfl, rfl, rfl⟩ := hcs
    exact ⟨[], rfl, .inl rfl, Nat.le_refl _, Nat.zero_le _⟩
  · simp at hcs
    obtain ⟨rfl, rfl, rfl⟩ := hcs
    have hc : Try.prog.cellsOf 58 = 2 := by kernel_rfl
    have hmn : len ≤ m := by rw [hmm]; split <;> omega
    have each : ∀ i, i < len → ∃ z : Pl, w.cell? (ad.add (i * 2)) = some (.int .i64 z.1) ∧ w.cell? (ad.add (i * 2 + 1)) = some (.int .i64 z.2) := fun i hin => by
      obtain ⟨cs', h1, h2⟩ := hi i (by omega)
      obtain ⟨x0, x1, rfl⟩ := open_pl h2
      rw [hc] at h1
      obtain ⟨_, _, hat⟩ := World.cells?_some h1
      have a0 := hat 0 (by omega)
      have a1 := hat 1 (by omega)
      rw [add_add] at a0 a1
      exact ⟨(x0, x1), a0, a1⟩
    obtain ⟨f, hf⟩ : ∃ f : Nat → Pl, ∀ i, i < len → w.cell? (ad.add (i * 2)) = some (.int .i64 (f i).1) ∧ w.cell? (ad.add (i * 2 + 1)) = some (.int .i64 (f i).2) :=
      ⟨fun i => if hh : i < len then Classical.choose (each i hh) else pl0, fun i hh => by simp only [dif_pos hh]; exact Classical.choose_spec (each i hh)⟩
    refine ⟨(List.range len).map f, by simp, ?_, hl, hm⟩
    by_cases h0 : len = 0
    · subst h0; exact .inl rfl
    · obtain ⟨b, off, spot⟩ := ad
      have hsp := (hf 0 (by omega)).1
      have hspot : spot = none := by simpa [Addr.add] using World.cell?_spot hsp
      subst hspot
      refine .inr ⟨b, off, rfl, fun i hin => ?_⟩
      have hin' : i < len := by simpa using hin
      have e : ((List.range len).map f).getD i pl0 = f i := by
        rw [List.getD_eq_getElem?_getD, List.getElem?_map, List.getElem?_range hin']; rfl
      obtain ⟨q0, q1⟩ := hf i hin'
      rw [add_off] at q0 q1
      rw [e]
      exact ⟨q0, by rw [Nat.add_assoc]; exact q1⟩
end Go.Proofs.Ytigapnbpgbfbhac
