/- Orders by the program: how many there are, and the order of a number. Condition: at most five indices, numbers up to 1000000. -/
import Derived.Test.YtojkgabkiagjdabClmV
import Derived.Test.YtojkgabkiagjdabReadz
namespace Go.Proofs.Ytojkgabkiagjdab
open Go.RowKit
set_option linter.unusedSimpArgs false
set_option linter.unusedVariables false
theorem own_capN {w : World} {base n c : Nat} {b : Option Addr} {zs : List Int} (h : OwnI w base (.slice b n c) zs) : n ≤ c := by
  rcases h.2 with ⟨e, h0⟩ | ⟨g, cap, cur, e, _, _, hc, _⟩
  · injection e with e1 e2 e3; omega
  · injection e with e1 e2 e3; omega
theorem ints_dropN {w : World} {g : Nat} {zs : List Int} {cap k : Nat} (h : IsInts w (some ⟨g, 0, none⟩) zs) (hk : k ≤ zs.length) (hc : zs.length ≤ cap) : IsInts w (if cap = k then some ⟨g, 0, none⟩ else some ⟨g, k, none⟩) (zs.drop k) := by
  by_cases e : cap = k
  · have : zs.drop k = [] := by rw [List.drop_eq_nil_iff]; omega
    rw [this]; exact .inl rfl
  · rw [if_neg e]
    rcases h with rfl | ⟨g', o', ha, hcc⟩
    · simp; exact .inl rfl
    · injection ha with ha
      injection ha with e1 e2
      subst e1 e2
      refine .inr ⟨g, k, rfl, fun i hi => ?_⟩
      rw [List.length_drop] at hi
      have := hcc (k + i) (by omega)
      rw [Nat.zero_add] at this
      rw [this]
      congr 2
      rw [List.getD_eq_getElem?_getD, List.getD_eq_getElem?_getD, List.getElem?_drop]
theorem ints_takeR {w : World} {a : Option Addr} {zs : List Int} (h : IsInts w a zs) (k : Nat) : IsInts w a (zs.take k) := by
  rcases h with rfl | ⟨g, o, ha, hc⟩
  · exact .inl (by simp)
  · refine .inr ⟨g, o, ha, fun i hi => ?_⟩
    rw [List.length_take] at hi
    have e : (zs.take k).getD i 0 = zs.getD i 0 := by rw [List.getD_eq_getElem?_getD, List.getD_eq_getElem?_getD, List.getElem?_take_of_lt (by omega)]
    rw [e]; exact hc i (by omega)
end Go.Proofs.Ytojkgabkiagjdab
