/- Claims by the program: lists turned round, equal losses, halves, what nobody else claims, shares, gaps, gifts. Condition: at most 1048576 numbers. -/
import Derived.Test.YtigapnbpgbfbhacClmI
import Derived.Test.YtigapnbpgbfbhacClmQ
import Derived.Test.YtigapnbpgbfbhacGrA
import Derived.Test.YtigapnbpgbfbhacMathR
import Derived.Test.YtigapnbpgbfbhacRest
import Derived.RegionTactic
import Derived.ChangeAlike
import Derived.BigRegion
namespace Go.Proofs.Ytigapnbpgbfbhac
open Go.RowKit
set_option linter.unusedSimpArgs false
set_option linter.unusedVariables false
theorem mix_skip {zs : List Int} {k : Nat} (h : zs.getD k 0 = 0) : mixZ zs (k + 1) = mixZ zs k := by
  refine ext_z (by rw [mix_len, mix_len]) (fun i hi => ?_)
  rw [mix_len] at hi
  rw [mix_get zs (k + 1) hi, mix_get zs k hi]
  by_cases e : i = k
  · subst e; rw [if_pos (by omega), if_neg (by omega), h]
  · by_cases c : i < k
    · rw [if_pos (by omega), if_pos c]
    · rw [if_neg (by omega), if_neg c]
/-- the last k numbers, and 0 ahead of them, turned round -/
def backTo (zs : List Int) (k : Nat) : List Int := (List.range zs.length).map fun i => if zs.length - 1 - i < k then zs.getD (zs.length - 1 - i) 0 else 0
theorem backTo_len (zs : List Int) (k : Nat) : (backTo zs k).length = zs.length := by unfold backTo; simp
theorem backTo_get (zs : List Int) (k : Nat) {i : Nat} (h : i < zs.length) : (backTo zs k).getD i 0 = if zs.length - 1 - i < k then zs.getD (zs.length - 1 - i) 0 else 0 := by
  unfold backTo
  rw [List.getD_eq_getElem?_getD, List.getElem?_map, List.getElem?_range h]; rfl
theorem backTo_zero (zs : List Int) : backTo zs 0 = List.replicate zs.length 0 := by
  refine ext_z (by rw [backTo_len, List.length_replicate]) (fun i hi => ?_)
  rw [backTo_len] at hi
  rw [backTo_get zs 0 hi, if_neg (by omega), rep_get]
theorem backTo_end (zs : List Int) : backTo zs zs.length = zs.reverse := by
  refine ext_z (by rw [backTo_len, List.length_reverse]) (fun i hi => ?_)
  rw [backTo_len] at hi
  rw [backTo_get zs _ hi, if_pos (by omega), revZ_get zs hi]
theorem backTo_set {zs : List Int} {k : Nat} (h : k < zs.length) : (backTo zs k).set (zs.length - 1 - k) (zs.getD k 0) = backTo zs (k + 1) := by
  refine ext_z (by rw [List.length_set, backTo_len, backTo_len]) (fun i hi => ?_)
  rw [List.length_set, backTo_len] at hi
  rw [getD_setZ i _ (by rw [backTo_len]; omega), backTo_get zs k hi, backTo_get zs (k + 1) hi]
  by_cases e : i = zs.length - 1 - k
  · rw [if_pos e, if_pos (by omega), e, show zs.length - 1 - (zs.length - 1 - k) = k by omega]
  · rw [if_neg e]
    by_cases c : zs.length - 1 - i < k
    · rw [if_pos c, if_pos (by omega)]
    · rw [if_neg c, if_neg (by omega)]
end Go.Proofs.Ytigapnbpgbfbhac
