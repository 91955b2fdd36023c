/- Turns as they lie in memory (2 integers each), and as they come in. No condition. -/
import Derived.Test.YtonoallohalhgaaFlat
import Derived.Deep.Slices
import Derived.ChangeSame
import Derived.ChangeArms
import Derived.ProofKit
namespace Go.Proofs.Ytonoallohalhgaa
open Go.ChangeShapes Go.WideShapes Go.RowKit Go.Deep

abbrev Tn := Int × Int
abbrev tn0 : Tn := (0, 0)
/-- the numbers, one after the other -/
def flatTn : List Tn → List Int
  | [] => []
  | h :: t => h.1 :: h.2 :: flatTn t
theorem flatTn_len : ∀ xs : List Tn, (flatTn xs).length = xs.length * 2 := by
  intro xs
  induction xs with
  | nil => rfl
  | cons h t ih => show (flatTn t).length + 1 + 1 = (t.length + 1) * 2; rw [ih]; omega
theorem flatTn_append : ∀ a b : List Tn, flatTn (a ++ b) = flatTn a ++ flatTn b := by
  intro a b
  induction a with
  | nil => rfl
  | cons h t ih => show h.1 :: h.2 :: flatTn (t ++ b) = _; rw [ih]; rfl
theorem flatTn_get : ∀ (xs : List Tn) (k : Nat), k < xs.length → (flatTn xs).getD (k * 2) 0 = (xs.getD k tn0).1 ∧ (flatTn xs).getD (k * 2 + 1) 0 = (xs.getD k tn0).2 := by
  intro xs
  induction xs with
  | nil => intro k h; simp at h
  | cons h t ih =>
    intro k hk
    cases k with
    | zero => exact ⟨rfl, rfl⟩
    | succ k =>
      have := ih k (by simpa using hk)
      rw [show (k + 1) * 2 = k * 2 + 1 + 1 from by omega]
      exact this
theorem flatTn_take (xs : List Tn) (k : Nat) : (flatTn xs).take (k * 2) = flatTn (xs.take k) := by
  induction xs generalizing k with
  | nil => simp [flatTn]
  | cons h t ih =>
    cases k with
    | zero => rfl
    | succ k =>
      rw [show (k + 1) * 2 = k * 2 + 1 + 1 from by omega]
      show h.1 :: h.2 :: (flatTn t).take (k * 2) = _
      rw [ih]; rfl
theorem flatTn_drop (xs : List Tn) (k : Nat) : (flatTn xs).drop (k * 2) = flatTn (xs.drop k) := by
  induction xs generalizing k with
  | nil => simp [flatTn]
  | cons h t ih =>
    cases k with
    | zero => rfl
    | succ k =>
      rw [show (k + 1) * 2 = k * 2 + 1 + 1 from by omega]
      show (flatTn t).drop (k * 2) = _
      rw [ih]; rfl
/-- Turns xs, read through a slice at address a -/
def IsTn (w : World) (a : Option Addr) (xs : List Tn) : Prop := xs = [] ∨ ∃ g o, a = some ⟨g, o, none⟩ ∧ ∀ i, i < xs.length → w.cell? ⟨g, o + i * 2, none⟩ = some (.int .i64 (xs.getD i tn0).1) ∧ w.cell? ⟨g, o + i * 2 + 1, none⟩ = some (.int .i64 (xs.getD i tn0).2)
theorem tn_below {w w' : World} {a : Option Addr} {xs : List Tn} (h : IsTn w a xs) (hB : Below w.heap.size w w') : IsTn w' a xs := by
  rcases h with h | ⟨g, o, ha, hc⟩
  · exact .inl h
  · refine .inr ⟨g, o, ha, fun i hi => ?_⟩
    obtain ⟨c0, c1⟩ := hc i hi
    have kp : ∀ p v, w.cell? ⟨g, p, none⟩ = some v → w'.cell? ⟨g, p, none⟩ = some v := fun p v c => (hB.cell (p := ⟨g, p, none⟩) (World.block_lt_of_cell? w _ c)).trans c
    exact ⟨kp _ _ c0, kp _ _ c1⟩
theorem tn_at {w wr : World} {g o : Nat} {xs : List Tn} (hc : ∀ i, i < xs.length → w.cell? ⟨g, o + i * 2, none⟩ = some (.int .i64 (xs.getD i tn0).1) ∧ w.cell? ⟨g, o + i * 2 + 1, none⟩ = some (.int .i64 (xs.getD i tn0).2)) (hB : Below w.heap.size w wr) {k : Nat} (hk : k < xs.length) :
    wr.cell? ⟨g, o + k * 2, none⟩ = some (.int .i64 (xs.getD k tn0).1) ∧ wr.cell? ⟨g, o + k * 2 + 1, none⟩ = some (.int .i64 (xs.getD k tn0).2) := by
  obtain ⟨c0, c1⟩ := hc k hk
  have kp : ∀ p v, w.cell? ⟨g, p, none⟩ = some v → wr.cell? ⟨g, p, none⟩ = some v := fun p v c => (hB.cell (p := ⟨g, p, none⟩) (World.block_lt_of_cell? w _ c)).trans c
  exact ⟨kp _ _ c0, kp _ _ c1⟩
theorem Flat.tn {w : World} {g : Nat} {t : TypeId} {xs : List Tn} (h : Flat w g t (flatTn xs)) : IsTn w (some ⟨g, 0, none⟩) xs := by
  refine .inr ⟨g, 0, rfl, fun i hi => ?_⟩
  obtain ⟨a0, a1⟩ := flatTn_get xs i hi
  have hl := flatTn_len xs
  rw [Nat.zero_add]
  exact ⟨by rw [h.cell (by omega), a0], by rw [h.cell (by omega), a1]⟩
theorem tn_take {w : World} {g o : Nat} {xs : List Tn} (hc : ∀ i, i < xs.length → w.cell? ⟨g, o + i * 2, none⟩ = some (.int .i64 (xs.getD i tn0).1) ∧ w.cell? ⟨g, o + i * 2 + 1, none⟩ = some (.int .i64 (xs.getD i tn0).2)) (k : Nat) : IsTn w (some ⟨g, o, none⟩) (xs.take k) := by
  refine .inr ⟨g, o, rfl, fun i hi => ?_⟩
  rw [List.length_take] at hi
  have e : (xs.take k).getD i tn0 = xs.getD i tn0 := by
    rw [List.getD_eq_getElem?_getD, List.getD_eq_getElem?_getD, List.getElem?_take_of_lt (by omega)]
  rw [e]; exact hc i (by omega)
/-- the cells -/
def valsTn (xs : List Tn) : List Value := (flatTn xs).map (Value.int .i64)
theorem valsTn_len (xs : List Tn) : (valsTn xs).length = xs.length * 2 := by unfold valsTn; rw [List.length_map, flatTn_len]
theorem valsTn_append (a b : List Tn) : valsTn (a ++ b) = valsTn a ++ valsTn b := by unfold valsTn; rw [flatTn_append, List.map_append]
theorem valsTn_one (xs : List Tn) : ∀ u ∈ valsTn xs, u.oneCell' = true := fun u hu => by
  unfold valsTn at hu
  obtain ⟨z, _, rfl⟩ := List.mem_map.1 hu
  rfl
theorem valsTn_get {xs : List Tn} {k : Nat} (h : k < xs.length) : (valsTn xs)[k * 2]? = some (.int .i64 (xs.getD k tn0).1) ∧ (valsTn xs)[k * 2 + 1]? = some (.int .i64 (xs.getD k tn0).2) := by
  obtain ⟨a0, a1⟩ := flatTn_get xs k h
  have hl := flatTn_len xs
  have get : ∀ j, j < (flatTn xs).length → (valsTn xs)[j]? = some (.int .i64 ((flatTn xs).getD j 0)) := fun j hj => by
    unfold valsTn
    rw [List.getElem?_map, List.getElem?_eq_getElem hj, List.getD_eq_getElem?_getD, List.getElem?_eq_getElem hj]; rfl
  rw [get _ (by omega), get _ (by omega), a0, a1]
  exact ⟨rfl, rfl⟩
theorem tn_reads {w : World} {a : Option Addr} {xs : List Tn} (h : IsTn w a xs) : Reads w w.heap.size 2 a xs.length (valsTn xs) := by
  refine ⟨valsTn_len xs, fun hn => ?_⟩
  rcases h with rfl | ⟨g, o, rfl, hc⟩
  · exact absurd hn (by simp)
  · refine ⟨⟨g, o, none⟩, rfl, ?_, fun j u hu => ?_⟩
    · exact World.block_lt_of_cell? w _ (hc 0 hn).1
    · have hl := valsTn_len xs
      have hj : j < (valsTn xs).length := by
        rcases Nat.lt_or_ge j (valsTn xs).length with h | h
        · exact h
        · rw [List.getElem?_eq_none h] at hu; cases hu
      have hk : j / 2 < xs.length := by omega
      obtain ⟨c0, c1⟩ := hc _ hk
      obtain ⟨v0, v1⟩ := valsTn_get hk
      have hm : j % 2 = 0 ∨ j % 2 = 1 := by omega
      rw [add_off]
      rcases hm with e | e
      · have ej : j = j / 2 * 2 := by omega
        rw [ej] at hu ⊢; rw [v0] at hu; rw [c0, ← hu]
      · have ej : j = j / 2 * 2 + 1 := by omega
        rw [ej] at hu ⊢; rw [v1] at hu; rw [← Nat.add_assoc, c1, ← hu]
theorem reads_tn {w : World} {B : Nat} {a : Option Addr} {xs : List Tn} (h : Reads w B 2 a xs.length (valsTn xs)) (hsp : ∀ ad, a = some ad → ad.spot = none) : IsTn w a xs := by
  by_cases hn : xs = []
  · exact .inl hn
  · obtain ⟨ad, rfl, _, hc⟩ := h.2 (by cases xs with | nil => exact absurd rfl hn | cons _ _ => simp)
    obtain ⟨g, o, sp⟩ := ad
    obtain rfl : sp = none := hsp _ rfl
    refine .inr ⟨g, o, rfl, fun i hi => ?_⟩
    obtain ⟨v0, v1⟩ := valsTn_get hi
    have e0 := hc _ _ v0
    have e1 := hc _ _ v1
    rw [add_off] at e0 e1
    rw [← Nat.add_assoc] at e1
    exact ⟨e0, e1⟩
theorem infoTn : (Try.prog.info? 52).map (fun i => (i.zero, i.size, i.bytes)) = some (some (.agg #[.int .i64 0, .int .i64 0]), 2, 16) := by kernel_rfl
/-- a row of the call's own that holds xs -/
def OwnTn (w : World) (base : Nat) (v : Value) (xs : List Tn) : Prop := w.ownsRow base 52 2 v xs.length (valsTn xs)
theorem own_tn {w : World} {base : Nat} {v : Value} {xs : List Tn} (h : OwnTn w base v xs) : ∃ (b : Option Addr) (cap : Nat), v = .slice b xs.length cap ∧ IsTn w b xs := by
  have h0 := h
  rcases h.2 with ⟨hv, hn⟩ | ⟨g, cap, cur, hv, _⟩
  · exact ⟨none, 0, by rw [hv, hn], .inl (List.eq_nil_of_length_eq_zero hn)⟩
  · subst hv
    exact ⟨some ⟨g, 0, none⟩, cap, rfl, reads_tn (Reads.of_own h0) (fun ad e => by injection e with e; rw [← e])⟩

/-- a slice of Turns that came in -/
def TnIn (w : World) (a : Option Addr) (len cap : Nat) (xs : List Tn) : Prop := xs.length = len ∧ IsTn w a xs ∧ len ≤ cap ∧ cap ≤ maxLen
end Go.Proofs.Ytonoallohalhgaa
