/- Claims by the program: halves first, what nobody else claims, shares, gaps, gifts. Condition: at most 1048576 numbers. -/
import Derived.Test.YtigapnbpgbfbhacClmJ
namespace Go.Proofs.Ytigapnbpgbfbhac
open Go.RowKit
set_option linter.unusedSimpArgs false
set_option linter.unusedVariables false
/-- the first k of some numbers, and others behind them -/
def mix2 (zs ys : List Int) (k : Nat) : List Int := (List.range zs.length).map fun i => if i < k then zs.getD i 0 else ys.getD i 0
theorem mix2_len (zs ys : List Int) (k : Nat) : (mix2 zs ys k).length = zs.length := by unfold mix2; simp
theorem mix2_get (zs ys : List Int) (k : Nat) {i : Nat} (h : i < zs.length) : (mix2 zs ys k).getD i 0 = if i < k then zs.getD i 0 else ys.getD i 0 := by
  unfold mix2
  rw [List.getD_eq_getElem?_getD, List.getElem?_map, List.getElem?_range h]; rfl
theorem mix2_zero {zs ys : List Int} (h : ys.length = zs.length) : mix2 zs ys 0 = ys := by
  refine ext_z (by rw [mix2_len, h]) (fun i hi => ?_)
  rw [mix2_len] at hi
  rw [mix2_get zs ys 0 hi, if_neg (by omega)]
theorem mix2_all {zs : List Int} (ys : List Int) {k : Nat} (h : zs.length ≤ k) : mix2 zs ys k = zs := by
  refine ext_z (mix2_len zs ys k) (fun i hi => ?_)
  rw [mix2_len] at hi
  rw [mix2_get zs ys k hi, if_pos (by omega)]
theorem mix2_set {zs : List Int} (ys : List Int) {k : Nat} (h : k < zs.length) : (mix2 zs ys k).set k (zs.getD k 0) = mix2 zs ys (k + 1) := by
  refine ext_z (by rw [List.length_set, mix2_len, mix2_len]) (fun i hi => ?_)
  rw [List.length_set, mix2_len] at hi
  rw [getD_setZ i _ (by rw [mix2_len]; exact h), mix2_get zs ys k hi, mix2_get zs ys (k + 1) hi]
  by_cases e : i = k
  · subst e; rw [if_pos rfl, if_pos (by omega)]
  · rw [if_neg e]
    by_cases c : i < k
    · rw [if_pos c, if_pos (by omega)]
    · rw [if_neg c, if_neg (by omega)]
theorem hf_no1 {n : Int} {cs : List Int} (h : vcB n cs = false) : hfB n cs = false := by unfold hfB; rw [h]; rfl
theorem hf_no2 {n : Int} {cs : List Int} (h : evB cs = false) : hfB n cs = false := by unfold hfB; rw [h]; simp
theorem hf_yes {n : Int} {cs : List Int} (h : vcB n cs = true) (h2 : evB cs = true) : hfB n cs = true := by unfold hfB; rw [h, h2]; rfl
theorem ints_far {wr : World} {g gh oh j : Nat} {v : Value} {zs : List Int} (h : IsInts wr (some ⟨gh, oh, none⟩) zs) (hne : gh ≠ g) : IsInts (wr.setCell ⟨g, j, none⟩ v) (some ⟨gh, oh, none⟩) zs := by
  rcases h with h | ⟨g', o', e, hc⟩
  · exact .inl h
  · injection e with e
    injection e with e1 e2 e3
    subst e1 e2
    exact .inr ⟨gh, oh, rfl, fun i hi => (World.cell?_setCell_other wr ⟨g, j, none⟩ ⟨gh, oh + i, none⟩ v (fun e => hne (by injection e with e1 e2; first | exact e1.symm | exact e1))).trans (hc i hi)⟩
end Go.Proofs.Ytigapnbpgbfbhac
