/- Lists of lists of numbers that come in. No condition. -/
import Derived.Test.YtdlbjmhjaljlfabWish
import Derived.Deep.Matrix
namespace Go.Proofs.Ytdlbjmhjaljlfab
open Go.RowKit
set_option linter.unusedSimpArgs false
set_option linter.unusedVariables false
/-- what is told of lists of numbers that came in -/
def RowsIn (w : World) (a : Option Addr) (len cap : Nat) (rs : List (List Int)) : Prop := rs.length = len ∧ IsRows w a rs ∧ len ≤ cap ∧ cap ≤ maxLen ∧ ∀ r ∈ rs, r.length ≤ maxLen
theorem open_rows {H : Type} {enc : TypeId × Value → H} {W : World} {base : Nat} {held : Bool} {fuel : Nat} {a : Option Addr} {len cap : Nat} {x : DataW H × List MemPlace}
    (hf : DataW.trod enc Try.prog W base (fun _ => true) held fuel 38 (Value.slice a len cap).cells.toList = some x) : ∃ rs, RowsIn W a len cap rs := by
  rcases Go.Deep.open_int_rows Try.underlying38 Try.underlying40 Try.underlying3 (by kernel_rfl) (by kernel_rfl) hf with ⟨hcs, _⟩ | ⟨ad, l, c, A, L, C, Z, hcs, _, hl, hm, _, hr⟩
  · simp [Value.cells] at hcs
    obtain ⟨rfl, rfl, rfl⟩ := hcs
    exact ⟨[], rfl, .inl rfl, Nat.le_refl _, Nat.zero_le _, by simp⟩
  · simp [Value.cells] at hcs
    obtain ⟨rfl, rfl, rfl⟩ := hcs
    refine ⟨(List.range len).map fun r => (Z r).take (L r), by simp, ?_, hl, hm, fun r hr2 => ?_⟩
    · by_cases h0 : len = 0
      · subst h0; exact .inl rfl
      · obtain ⟨b, off, spot⟩ := ad
        have hc := (hr 0 (by omega)).1
        have hspot : spot = none := by simpa [Addr.add] using World.cell?_spot hc
        subst hspot
        refine .inr ⟨b, off, rfl, fun i hi => ?_⟩
        have hi' : i < len := by simpa using hi
        obtain ⟨c1, c2, c3, c4, c5, c6, c7⟩ := hr i (by omega)
        have e : ((List.range len).map fun r => (Z r).take (L r)).getD i [] = (Z i).take (L i) := by
          rw [List.getD_eq_getElem?_getD, List.getElem?_map, List.getElem?_range hi']; rfl
        have hlen : ((Z i).take (L i)).length = L i := by rw [List.length_take]; omega
        rw [e, hlen]
        refine ⟨A i, C i, ?_, c2, ?_⟩
        · by_cases hi0 : i = 0
          · subst hi0; simpa [Addr.add] using c1
          · simpa [Addr.add, hi0] using c1
        · by_cases hL : L i = 0
          · exact .inl (by rw [hL]; rfl)
          · cases hA : A i with
            | none => have := c6 hA; omega
            | some a' =>
              obtain ⟨g', o', s'⟩ := a'
              obtain ⟨_, cc⟩ := c7 _ hA
              have hc' := cc 0 (by omega)
              have hs' : s' = none := by simpa [Addr.add] using World.cell?_spot hc'
              subst hs'
              refine .inr ⟨g', o', rfl, fun j hj => ?_⟩
              have hj' : j < L i := by rw [List.length_take] at hj; omega
              have := cc j (by omega)
              rw [List.getD_eq_getElem?_getD, List.getElem?_take_of_lt hj', ← List.getD_eq_getElem?_getD]
              by_cases hj0 : j = 0
              · subst hj0; simpa [Addr.add] using this
              · simpa [Addr.add, hj0] using this
    · obtain ⟨k, hk, rfl⟩ := List.mem_map.1 hr2
      have := (hr k (by have := List.mem_range.1 hk; omega))
      rw [List.length_take]; omega
/-- what is left behind the sizes of lists -/
def szL : Int → List (List Int) → Int
  | left, [] => left
  | left, r :: t => if left - (r.length : Int) < 0 then -1 else szL (left - (r.length : Int)) t
def szSS (left : Int) (rs : List (List Int)) : Int := if left - (rs.length : Int) < 0 then -1 else szL (left - (rs.length : Int)) rs
theorem szL_pos : ∀ (rs : List (List Int)) (left : Int), ¬ szL left rs < 0 → 0 ≤ left → ∀ r ∈ rs, (r.length : Int) ≤ left := by
  intro rs
  induction rs with
  | nil => intro left _ _ r h; cases h
  | cons x t ih =>
    intro left h h0 r hr
    have e : szL left (x :: t) = if left - (x.length : Int) < 0 then -1 else szL (left - (x.length : Int)) t := rfl
    rw [e] at h
    by_cases c : left - (x.length : Int) < 0
    · rw [if_pos c] at h; omega
    · rw [if_neg c] at h
      rcases List.mem_cons.1 hr with rfl | hr
      · omega
      · have := ih _ h (by omega) r hr; omega
theorem szSS_pos {left : Int} {rs : List (List Int)} (h : ¬ szSS left rs < 0) (h0 : 0 ≤ left) : (rs.length : Int) ≤ left ∧ ∀ r ∈ rs, (r.length : Int) ≤ left := by
  unfold szSS at h
  by_cases c : left - (rs.length : Int) < 0
  · rw [if_pos c] at h; omega
  · rw [if_neg c] at h
    exact ⟨by omega, fun r hr => by have := szL_pos rs _ h (by omega) r hr; omega⟩
end Go.Proofs.Ytdlbjmhjaljlfab
