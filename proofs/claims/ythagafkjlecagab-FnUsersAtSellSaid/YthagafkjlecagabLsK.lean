/- Leases in a row that a call makes. No condition. -/
import Derived.Test.YthagafkjlecagabLs
import Derived.Test.YthagafkjlecagabGrB
import Derived.Test.YthagafkjlecagabLsL
namespace Go.Proofs.Ythagafkjlecagab
open Go.RowKit
set_option linter.unusedSimpArgs false
set_option linter.unusedVariables false

def flatLs : List Lr → List Int
  | [] => []
  | h :: t => h.ow :: h.te :: h.n :: h.d :: h.fr :: h.en :: flatLs t
theorem flatLs_len : ∀ xs : List Lr, (flatLs xs).length = xs.length * 6 := by
  intro xs
  induction xs with
  | nil => rfl
  | cons h t ih => show (flatLs t).length + 1 + 1 + 1 + 1 + 1 + 1 = (t.length + 1) * 6; rw [ih]; omega
theorem flatLs_append : ∀ a b : List Lr, flatLs (a ++ b) = flatLs a ++ flatLs b := by
  intro a b
  induction a with
  | nil => rfl
  | cons h t ih => show h.ow :: h.te :: h.n :: h.d :: h.fr :: h.en :: flatLs (t ++ b) = _; rw [ih]; rfl
theorem flatLs_get : ∀ (xs : List Lr) (k : Nat), k < xs.length → (flatLs xs).getD (k * 6) 0 = (xs.getD k lr0).ow ∧ (flatLs xs).getD (k * 6 + 1) 0 = (xs.getD k lr0).te ∧ (flatLs xs).getD (k * 6 + 2) 0 = (xs.getD k lr0).n ∧ (flatLs xs).getD (k * 6 + 3) 0 = (xs.getD k lr0).d ∧ (flatLs xs).getD (k * 6 + 4) 0 = (xs.getD k lr0).fr ∧ (flatLs xs).getD (k * 6 + 5) 0 = (xs.getD k lr0).en := by
  intro xs
  induction xs with
  | nil => intro k h; simp at h
  | cons h t ih =>
    intro k hk
    cases k with
    | zero => exact ⟨rfl, rfl, rfl, rfl, rfl, rfl⟩
    | succ k =>
      have := ih k (by simpa using hk)
      rw [show (k + 1) * 6 = k * 6 + 1 + 1 + 1 + 1 + 1 + 1 from by omega]
      exact this
def valsLs (xs : List Lr) : List Value := (flatLs xs).map (Value.int .i64)
theorem valsLs_len (xs : List Lr) : (valsLs xs).length = xs.length * 6 := by unfold valsLs; rw [List.length_map, flatLs_len]
theorem valsLs_append (a b : List Lr) : valsLs (a ++ b) = valsLs a ++ valsLs b := by unfold valsLs; rw [flatLs_append, List.map_append]
theorem valsLs_one (xs : List Lr) : ∀ u ∈ valsLs xs, u.oneCell' = true := fun u hu => by
  unfold valsLs at hu
  obtain ⟨z, _, rfl⟩ := List.mem_map.1 hu
  rfl
theorem valsLs_get {xs : List Lr} {k : Nat} (h : k < xs.length) : (valsLs xs)[k * 6]? = some (.int .i64 (xs.getD k lr0).ow) ∧ (valsLs xs)[k * 6 + 1]? = some (.int .i64 (xs.getD k lr0).te) ∧ (valsLs xs)[k * 6 + 2]? = some (.int .i64 (xs.getD k lr0).n) ∧ (valsLs xs)[k * 6 + 3]? = some (.int .i64 (xs.getD k lr0).d) ∧ (valsLs xs)[k * 6 + 4]? = some (.int .i64 (xs.getD k lr0).fr) ∧ (valsLs xs)[k * 6 + 5]? = some (.int .i64 (xs.getD k lr0).en) := by
  obtain ⟨a0, a1, a2, a3, a4, a5⟩ := flatLs_get xs k h
  have hl := flatLs_len xs
  have get : ∀ j, j < (flatLs xs).length → (valsLs xs)[j]? = some (.int .i64 ((flatLs xs).getD j 0)) := fun j hj => by
    unfold valsLs
    rw [List.getElem?_map, List.getElem?_eq_getElem hj, List.getD_eq_getElem?_getD, List.getElem?_eq_getElem hj]; rfl
  rw [get _ (by omega), get _ (by omega), get _ (by omega), get _ (by omega), get _ (by omega), get _ (by omega), a0, a1, a2, a3, a4, a5]
  exact ⟨rfl, rfl, rfl, rfl, rfl, rfl⟩
theorem reads_ls {w : World} {B : Nat} {a : Option Addr} {xs : List Lr} (h : Reads w B 6 a xs.length (valsLs xs)) (hsp : ∀ ad, a = some ad → ad.spot = none) : IsLs w a xs := by
  by_cases hn : xs = []
  · exact .inl hn
  · obtain ⟨ad, rfl, _, hc⟩ := h.2 (by cases xs with | nil => exact absurd rfl hn | cons _ _ => simp)
    obtain ⟨g, o, sp⟩ := ad
    obtain rfl : sp = none := hsp _ rfl
    refine .inr ⟨g, o, rfl, fun i hi => ?_⟩
    obtain ⟨v0, v1, v2, v3, v4, v5⟩ := valsLs_get hi
    have e0 := hc _ _ v0
    have e1 := hc _ _ v1
    have e2 := hc _ _ v2
    have e3 := hc _ _ v3
    have e4 := hc _ _ v4
    have e5 := hc _ _ v5
    rw [add_off] at e0 e1 e2 e3 e4 e5
    rw [← Nat.add_assoc] at e1 e2 e3 e4 e5
    exact ⟨e0, e1, e2, e3, e4, e5⟩
/-- a row of the call's own that holds xs -/
def OwnLz (w : World) (base : Nat) (v : Value) (xs : List Lr) : Prop := w.ownsRow base 48 6 v xs.length (valsLs xs)
theorem own_lz {w : World} {base : Nat} {v : Value} {xs : List Lr} (h : OwnLz w base v xs) : ∃ (b : Option Addr) (cap : Nat), v = .slice b xs.length cap ∧ IsLs w b xs ∧ (∀ ad, b = some ad → base ≤ ad.block) := by
  have h0 := h
  rcases h.2 with ⟨hv, hn⟩ | ⟨g, cap, cur, hv, hg, _⟩
  · exact ⟨none, 0, by rw [hv, hn], .inl (List.eq_nil_of_length_eq_zero hn), fun ad e => by cases e⟩
  · subst hv
    exact ⟨some ⟨g, 0, none⟩, cap, rfl, reads_ls (Reads.of_own h0) (fun ad e => by injection e with e; rw [← e]), fun ad e => by injection e with e; subst e; exact hg⟩
theorem own_snocLz {w : World} {base : Nat} {v : Value} {xs : List Lr} {x : Lr} (h : w.ownsRow base 48 6 v (xs.length + 1) (valsLs xs ++ [.int .i64 x.ow, .int .i64 x.te, .int .i64 x.n, .int .i64 x.d, .int .i64 x.fr, .int .i64 x.en])) : OwnLz w base v (xs ++ [x]) := by
  unfold OwnLz
  rw [List.length_append, valsLs_append]
  exact h
end Go.Proofs.Ythagafkjlecagab
