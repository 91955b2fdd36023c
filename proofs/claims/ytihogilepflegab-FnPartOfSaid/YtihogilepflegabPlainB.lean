/- Plain laws on fractions, continued. -/
import Derived.Test.YtihogilepflegabPlain
namespace Wsh
theorem one_more (x y : Int) (h : vfB x y = true) : rn (x * y + (y - x) * y) (y * y) = 1 ∧ rd (x * y + (y - x) * y) (y * y) = 1 ∧ redB (x * y + (y - x) * y) (y * y) = true := by
  have k := (vfB_iff _ _).1 h
  refine red_eq _ _ 1 1 (Int.mul_pos (by omega) (by omega)) (by decide) ?_
  grind
theorem make_again (n d : Int) (h : (mkB d && redB n d) = true) :
    mkB d = true ∧ redB n d = true ∧ mkB (rd n d) = true ∧ redB (rn n d) (rd n d) = true ∧ rn (rn n d) (rd n d) = rn n d ∧ rd (rn n d) (rd n d) = rd n d ∧ rn n d * d = n * rd n d ∧
    (0 ≤ rn n d * d ∧ rn n d * d ≤ 10000000000) ∧ (0 ≤ n * rd n d ∧ n * rd n d ≤ 10000000000) ∧ (vfB (rn n d) (rd n d) = true ∧ True) := by
  rw [Bool.and_eq_true] at h
  obtain ⟨h1, h2⟩ := h
  have hd : 1 ≤ d ∧ d ≤ 1000000 := by unfold mkB at h1; simp at h1; exact h1
  have hv := red_valid n d (by omega) h2
  have k := (vfB_iff _ _).1 hv
  obtain ⟨e1, e2, e3⟩ := red_self _ _ hv
  have hc := cross n d
  have b1 : 0 ≤ d * rn n d := Int.mul_nonneg (by omega) (by omega)
  have b2 : d * rn n d ≤ 10000000000 := mul_bd2 (by omega) (by omega) (by omega) (by omega)
  rw [Int.mul_comm] at b1 b2
  refine ⟨h1, h2, mkB_yes (by omega), e3, e1, e2, hc, ⟨b1, b2⟩, ⟨by rw [← hc]; exact b1, by rw [← hc]; exact b2⟩, hv, trivial⟩
theorem and3_iff {a b c : Bool} (h : (a && b && c) = true) : a = true ∧ b = true ∧ c = true := by
  cases a <;> cases b <;> cases c <;> simp_all
theorem den_pos {x y u v : Int} (ha : vfB x y = true) (hb : vfB u v = true) : 0 < y * v := by
  have ka := (vfB_iff _ _).1 ha
  have kb := (vfB_iff _ _).1 hb
  exact Int.mul_pos (by omega) (by omega)
theorem comm_n (x y u v : Int) : u * y + x * v = x * v + u * y := Int.add_comm ..
theorem comm_red {x y u v : Int} (h : redB (x * v + u * y) (y * v) = true) : redB (u * y + x * v) (v * y) = true := by rw [comm_n, Int.mul_comm v y]; exact h
theorem comm_rn {x y u v m : Int} (h : rn (x * v + u * y) (y * v) = m) : rn (u * y + x * v) (v * y) = m := by rw [comm_n, Int.mul_comm v y]; exact h
theorem comm_rd {x y u v m : Int} (h : rd (x * v + u * y) (y * v) = m) : rd (u * y + x * v) (v * y) = m := by rw [comm_n, Int.mul_comm v y]; exact h
theorem mcomm_red {x y u v : Int} (h : redB (x * u) (y * v) = true) : redB (u * x) (v * y) = true := by rw [Int.mul_comm u x, Int.mul_comm v y]; exact h
theorem mcomm_rn {x y u v m : Int} (h : rn (x * u) (y * v) = m) : rn (u * x) (v * y) = m := by rw [Int.mul_comm u x, Int.mul_comm v y]; exact h
theorem mcomm_rd {x y u v m : Int} (h : rd (x * u) (y * v) = m) : rd (u * x) (v * y) = m := by rw [Int.mul_comm u x, Int.mul_comm v y]; exact h
theorem cmpI_bd (p q : Int) : -1 ≤ cmpI p q ∧ cmpI p q ≤ 1 := by unfold cmpI; split <;> (try split) <;> omega
/-- a sum is not less: 0 is at most what CompareFrac returns -/
theorem cmp_ge {m z x y : Int} (ho : vfB m z = true) (ha : vfB x y = true) (h : x * z ≤ m * y) : 0 ≤ cmpF m z x y := by
  rw [cmpF_yes ho ha]; unfold cmpI
  rw [if_neg (by omega)]
  split <;> omega
theorem cmp_le {u v x y : Int} (hb : vfB u v = true) (ha : vfB x y = true) (h : 0 ≤ x * v - u * y) : cmpF u v x y ≤ 0 := by
  rw [cmpF_yes hb ha]; unfold cmpI
  split
  · omega
  · rw [if_neg (by omega)]; omega
theorem cmp_le2 {m z x y : Int} (ho : vfB m z = true) (ha : vfB x y = true) (h : m * y ≤ x * z) : cmpF m z x y ≤ 0 := by
  rw [cmpF_yes ho ha]; unfold cmpI
  split
  · omega
  · rw [if_neg (by omega)]; omega
theorem red_nonneg {n d : Int} (h : redB n d = true) : 0 ≤ n := by unfold redB at h; simp at h; omega
end Wsh
