/- Contracts and facts of functions of this program, in build order. Conditions: those stated in each. -/
import Derived.Test.YthagafkjlecagabChecked
import Derived.WalkKit
import Derived.Below
import Derived.Lib.Hide
import Derived.Outline
import Derived.Deep.LoopGhost
import Derived.Handy
import Derived.Deep.QuietTactic
import Derived.BigQuiet
import Derived.Laws.AppendOwn
import Derived.OwnWalk
import Derived.OpenShut
import Derived.Deep.OwnRows
namespace Wsh
/-- valid fraction, as a Bool -/
def vfB (n d : Int) : Bool := decide (1 ≤ d) && decide (d ≤ 10000) && decide (0 ≤ n) && decide (n ≤ d) && decide (Int.gcd n d = 1)
theorem vfB_iff (n d : Int) : vfB n d = true ↔ (1 ≤ d ∧ d ≤ 10000 ∧ 0 ≤ n ∧ n ≤ d ∧ Int.gcd n d = 1) := by
  unfold vfB; simp [and_assoc]
def rn (n d : Int) : Int := n / (Int.gcd n d : Int)
def rd (n d : Int) : Int := d / (Int.gcd n d : Int)
def redB (n d : Int) : Bool := decide (0 ≤ n) && decide (n ≤ d) && decide (rd n d ≤ 10000)

theorem gcd_step (a b : Int) (ha : 0 ≤ a) (hb : 0 < b) : Int.gcd b (a % b) = Int.gcd a b := by
  rw [Int.gcd_comm a b]
  obtain ⟨n, rfl⟩ := Int.eq_ofNat_of_zero_le ha
  obtain ⟨m, rfl⟩ := Int.eq_ofNat_of_zero_le (Int.le_of_lt hb)
  rw [← Int.natCast_emod]
  simp only [Int.gcd_natCast_natCast]
  rw [Nat.gcd_comm m n, Nat.gcd_comm m (n % m), ← Nat.gcd_rec, Nat.gcd_comm]

theorem gcd_pos (n d : Int) (hd : 0 < d) : 0 < (Int.gcd n d : Int) := by
  have : Int.gcd n d ≠ 0 := by
    intro h
    have := Int.gcd_eq_zero_iff.1 h
    omega
  omega
theorem rn_mul (n d : Int) : rn n d * (Int.gcd n d : Int) = n := Int.ediv_mul_cancel (Int.gcd_dvd_left ..)
theorem rd_mul (n d : Int) : rd n d * (Int.gcd n d : Int) = d := Int.ediv_mul_cancel (Int.gcd_dvd_right ..)
theorem rd_pos (n d : Int) (hd : 0 < d) : 0 < rd n d := by
  have h := rd_mul n d
  have hg := gcd_pos n d hd
  apply Int.pos_of_mul_pos_left _ hg
  rw [h]; exact hd
theorem mulx (x y g : Int) : x * (y * g) = x * g * y := by grind
theorem cross (n d : Int) : rn n d * d = n * rd n d := by
  have h1 := rn_mul n d
  have h2 := rd_mul n d
  have h3 := mulx (rn n d) (rd n d) (Int.gcd n d : Int)
  rw [h1, h2] at h3
  exact h3
theorem dvd_cancel {b a e : Int} (h : b ∣ a * e) (g : Int.gcd a b = 1) : b ∣ e := by
  have := (Int.dvd_gcd_mul_iff_dvd_mul (k := b) (n := a) (m := e)).2 h
  rw [Int.gcd_comm, g] at this
  simpa using this
theorem gcd_red (n d : Int) (hd : 0 < d) : Int.gcd (rn n d) (rd n d) = 1 := by
  unfold rn rd
  exact Int.gcd_ediv_gcd_ediv_gcd (by have := gcd_pos n d hd; omega)
theorem red_valid (n d : Int) (hd : 0 < d) (h : redB n d = true) : vfB (rn n d) (rd n d) = true := by
  unfold redB at h
  simp only [Bool.and_eq_true, decide_eq_true_eq] at h
  obtain ⟨⟨h1, h2⟩, h3⟩ := h
  have hg := gcd_pos n d hd
  have hp := rd_pos n d hd
  rw [vfB_iff]
  refine ⟨by omega, h3, ?_, ?_, gcd_red n d hd⟩
  · exact Int.ediv_nonneg h1 (by omega)
  · exact Int.ediv_le_ediv hg h2
/-- a number is its own reduced fraction if it is valid -/
theorem red_self (n d : Int) (h : vfB n d = true) : rn n d = n ∧ rd n d = d ∧ redB n d = true := by
  rw [vfB_iff] at h
  obtain ⟨h1, h2, h3, h4, h5⟩ := h
  have e1 : rn n d = n := by unfold rn; rw [h5]; simp
  have e2 : rd n d = d := by unfold rd; rw [h5]; simp
  refine ⟨e1, e2, ?_⟩
  unfold redB
  rw [e2]
  simp [h2, h3, h4]
theorem uniq (a b c e : Int) (h : vfB a b = true) (k : vfB c e = true) (hx : a * e = c * b) : a = c ∧ b = e := by
  rw [vfB_iff] at h k
  obtain ⟨h1, h2, h3, h4, h5⟩ := h
  obtain ⟨k1, k2, k3, k4, k5⟩ := k
  have d1 : b ∣ e := by
    have : b ∣ a * e := ⟨c, by rw [hx]; exact Int.mul_comm _ _⟩
    exact dvd_cancel this (h5)
  have d2 : e ∣ b := by
    have : e ∣ c * b := ⟨a, by rw [← hx]; exact Int.mul_comm _ _⟩
    exact dvd_cancel this (k5)
  have hbe : b = e := Int.dvd_antisymm (by omega) (by omega) d1 d2
  refine ⟨?_, hbe⟩
  subst hbe
  exact Int.eq_of_mul_eq_mul_right (by omega) hx
/-- the reduced fraction of two numbers is the valid one that is as great -/
theorem red_eq (n d a b : Int) (hd : 0 < d) (h : vfB a b = true) (hx : n * b = a * d) : rn n d = a ∧ rd n d = b ∧ redB n d = true := by
  have hb := (vfB_iff a b).1 h
  have hc := cross n d
  have hp := rd_pos n d hd
  have hg := gcd_red n d hd
  -- value: rn * b = a * rd
  have e : rn n d * b = a * rd n d := by
    apply Int.eq_of_mul_eq_mul_right (a := d) (by omega)
    have t1 : rn n d * b * d = (rn n d * d) * b := by grind
    have t2 : a * rd n d * d = (a * d) * rd n d := by grind
    rw [t1, t2, hc, ← hx]; grind
  have d1 : b ∣ rd n d := by
    have : b ∣ a * rd n d := ⟨rn n d, by rw [← e]; exact Int.mul_comm _ _⟩
    exact dvd_cancel this (hb.2.2.2.2)
  have d2 : rd n d ∣ b := by
    have : rd n d ∣ rn n d * b := ⟨a, by rw [e]; exact Int.mul_comm _ _⟩
    exact dvd_cancel this (hg)
  have hbe : rd n d = b := Int.dvd_antisymm (by omega) (by omega) d2 d1
  rw [hbe] at e
  have ha : rn n d = a := Int.eq_of_mul_eq_mul_right (by omega) e
  refine ⟨ha, hbe, ?_⟩
  unfold redB
  have hn : 0 ≤ n := by
    have := Int.mul_nonneg hb.2.2.1 (Int.le_of_lt hd)
    rw [← hx] at this
    exact Int.nonneg_of_mul_nonneg_left this (by omega)
  have hnd : n ≤ d := by
    have : a * d ≤ b * d := Int.mul_le_mul_of_nonneg_right hb.2.2.2.1 (by omega)
    rw [← hx, Int.mul_comm b d] at this
    exact Int.le_of_mul_le_mul_right this (by omega)
  simp [hn, hnd, hbe, hb.2.1]
theorem mul_bd {x y : Int} (hx : 0 ≤ x) (hx' : x ≤ 10000) (hy : 0 ≤ y) (hy' : y ≤ 10000) : 0 ≤ x * y ∧ x * y ≤ 100000000 :=
  ⟨Int.mul_nonneg hx hy, Int.le_trans (Int.mul_le_mul hx' hy' hy (by omega)) (by decide)⟩
theorem mul_pos1 {x y : Int} (hx : 1 ≤ x) (hy : 1 ≤ y) : 1 ≤ x * y := Int.mul_pos (by omega) (by omega)

/-- AddFrac, then SubFrac of the sum: the fraction again. -/
theorem sub_of_add (an ad bn bd : Int) (ha : vfB an ad = true) (hb : vfB bn bd = true) (_h : redB (an * bd + bn * ad) (ad * bd) = true) :
    rn (rn (an * bd + bn * ad) (ad * bd) * bd - bn * rd (an * bd + bn * ad) (ad * bd)) (rd (an * bd + bn * ad) (ad * bd) * bd) = an ∧
    rd (rn (an * bd + bn * ad) (ad * bd) * bd - bn * rd (an * bd + bn * ad) (ad * bd)) (rd (an * bd + bn * ad) (ad * bd) * bd) = ad ∧
    redB (rn (an * bd + bn * ad) (ad * bd) * bd - bn * rd (an * bd + bn * ad) (ad * bd)) (rd (an * bd + bn * ad) (ad * bd) * bd) = true := by
  have ka := (vfB_iff _ _).1 ha
  have kb := (vfB_iff _ _).1 hb
  have hD : 0 < ad * bd := Int.mul_pos (by omega) (by omega)
  have hc := cross (an * bd + bn * ad) (ad * bd)
  have hp := rd_pos (an * bd + bn * ad) (ad * bd) hD
  generalize rn (an * bd + bn * ad) (ad * bd) = on at *
  generalize rd (an * bd + bn * ad) (ad * bd) = od at *
  refine red_eq _ _ _ _ (Int.mul_pos hp (by omega)) ha ?_
  have e1 : (on * bd - bn * od) * ad = on * (ad * bd) - bn * od * ad := by grind
  rw [e1, hc]; grind
theorem add_ge (an ad bn bd : Int) (ha : vfB an ad = true) (hb : vfB bn bd = true) :
    an * rd (an * bd + bn * ad) (ad * bd) ≤ rn (an * bd + bn * ad) (ad * bd) * ad := by
  have ka := (vfB_iff _ _).1 ha
  have kb := (vfB_iff _ _).1 hb
  have hD : 0 < ad * bd := Int.mul_pos (by omega) (by omega)
  have hc := cross (an * bd + bn * ad) (ad * bd)
  have hp := rd_pos (an * bd + bn * ad) (ad * bd) hD
  generalize rn (an * bd + bn * ad) (ad * bd) = on at *
  generalize rd (an * bd + bn * ad) (ad * bd) = od at *
  have h1 : 0 ≤ bn * ad * od := Int.mul_nonneg (Int.mul_nonneg (by omega) (by omega)) (by omega)
  apply Int.le_of_mul_le_mul_right (a := bd) _ (by omega)
  have e1 : on * ad * bd = on * (ad * bd) := by grind
  have e2 : (an * bd + bn * ad) * od = an * od * bd + bn * ad * od := by grind
  rw [e1, hc, e2]; omega
/-- SubFrac, then AddFrac: the fraction again. -/
theorem add_of_sub (an ad bn bd : Int) (ha : vfB an ad = true) (hb : vfB bn bd = true) (_h : redB (an * bd - bn * ad) (ad * bd) = true) :
    rn (rn (an * bd - bn * ad) (ad * bd) * bd + bn * rd (an * bd - bn * ad) (ad * bd)) (rd (an * bd - bn * ad) (ad * bd) * bd) = an ∧
    rd (rn (an * bd - bn * ad) (ad * bd) * bd + bn * rd (an * bd - bn * ad) (ad * bd)) (rd (an * bd - bn * ad) (ad * bd) * bd) = ad ∧
    redB (rn (an * bd - bn * ad) (ad * bd) * bd + bn * rd (an * bd - bn * ad) (ad * bd)) (rd (an * bd - bn * ad) (ad * bd) * bd) = true := by
  have ka := (vfB_iff _ _).1 ha
  have kb := (vfB_iff _ _).1 hb
  have hD : 0 < ad * bd := Int.mul_pos (by omega) (by omega)
  have hc := cross (an * bd - bn * ad) (ad * bd)
  have hp := rd_pos (an * bd - bn * ad) (ad * bd) hD
  generalize rn (an * bd - bn * ad) (ad * bd) = on at *
  generalize rd (an * bd - bn * ad) (ad * bd) = od at *
  refine red_eq _ _ _ _ (Int.mul_pos hp (by omega)) ha ?_
  have e1 : (on * bd + bn * od) * ad = on * (ad * bd) + bn * od * ad := by grind
  rw [e1, hc]; grind
/-- MulFrac by 1 over 1. -/
theorem mul_one_red (an ad : Int) (ha : vfB an ad = true) : rn (an * 1) (ad * 1) = an ∧ rd (an * 1) (ad * 1) = ad ∧ redB (an * 1) (ad * 1) = true := by
  rw [Int.mul_one, Int.mul_one]; exact red_self an ad ha
theorem mul_le_left (an ad bn bd : Int) (ha : vfB an ad = true) (hb : vfB bn bd = true) :
    rn (an * bn) (ad * bd) * ad ≤ an * rd (an * bn) (ad * bd) := by
  have ka := (vfB_iff _ _).1 ha
  have kb := (vfB_iff _ _).1 hb
  have hD : 0 < ad * bd := Int.mul_pos (by omega) (by omega)
  have hc := cross (an * bn) (ad * bd)
  have hp := rd_pos (an * bn) (ad * bd) hD
  generalize rn (an * bn) (ad * bd) = on at *
  generalize rd (an * bn) (ad * bd) = od at *
  apply Int.le_of_mul_le_mul_right (a := bd) _ (by omega)
  have e1 : on * ad * bd = on * (ad * bd) := by grind
  have e2 : an * bn * od = (an * od) * bn := by grind
  rw [e1, hc, e2]
  exact Int.mul_le_mul_of_nonneg_left kb.2.2.2.1 (Int.mul_nonneg (by omega) (by omega))
/-- 1 less a fraction. -/
theorem one_less (n d : Int) (h : vfB n d = true) : vfB (d - n) d = true ∧ rn (1 * d - n * 1) (1 * d) = d - n ∧ rd (1 * d - n * 1) (1 * d) = d ∧ redB (1 * d - n * 1) (1 * d) = true := by
  have k := (vfB_iff _ _).1 h
  have hv : vfB (d - n) d = true := by
    rw [vfB_iff]
    exact ⟨k.1, k.2.1, by omega, by omega, by rw [Int.gcd_sub_left_left_of_dvd n (Int.dvd_refl d)]; exact k.2.2.2.2⟩
  rw [Int.one_mul, Int.mul_one]
  exact ⟨hv, red_self _ _ hv⟩
theorem parts (n f d : Int) (hd : 0 < d) : n * f / d + n * (d - f) / d ≤ n ∧ n - 1 ≤ n * f / d + n * (d - f) / d ∧ (n * f / d + n * (d - f) / d = n ↔ n * f % d = 0) := by
  have e : n * (d - f) = n * d - n * f := Int.mul_sub ..
  rw [e]
  generalize n * f = x
  have h1 := Int.mul_ediv_add_emod x d
  have h2 := Int.mul_ediv_add_emod (n * d - x) d
  have b1 := Int.emod_nonneg x (show d ≠ 0 by omega)
  have b2 := Int.emod_lt_of_pos x hd
  have c1 := Int.emod_nonneg (n * d - x) (show d ≠ 0 by omega)
  have c2 := Int.emod_lt_of_pos (n * d - x) hd
  generalize x / d = q at *
  generalize (n * d - x) / d = p at *
  generalize x % d = r at *
  generalize (n * d - x) % d = s at *
  have h3 : d * (n - q - p) = r + s := by grind
  have l1 : 0 ≤ n - q - p := by
    apply Int.nonneg_of_mul_nonneg_right (b := n - q - p) (a := d) _ hd
    omega
  have l2 : n - q - p < 2 := by
    apply Int.lt_of_mul_lt_mul_left (a := d) _ (by omega)
    omega
  refine ⟨by omega, by omega, ?_, ?_⟩
  · intro h
    have : n - q - p = 0 := by omega
    rw [this] at h3
    omega
  · intro h
    have : n - q - p = 0 := by
      by_cases hz : n - q - p = 1
      · rw [hz] at h3; omega
      · omega
    omega
/-- what is returned of a reduced fraction: the number if there is one, else 0 -/
def qn (b : Bool) (x : Int) : Int := if b then x else 0
theorem qn_true (x : Int) : qn true x = x := rfl
theorem qn_false (x : Int) : qn false x = 0 := rfl
theorem redB_no {n d : Int} (h : ¬ (0 ≤ n ∧ n ≤ d)) : redB n d = false := by
  unfold redB; rw [Bool.eq_false_iff]; intro k; simp at k; omega
theorem redB_den {n d : Int} (h : 0 ≤ n ∧ n ≤ d) : redB n d = decide (rd n d ≤ 10000) := by
  unfold redB; simp [h.1, h.2]
theorem rd_le (n d : Int) (hd : 0 < d) : rd n d ≤ d := Int.ediv_le_self _ (by omega)
theorem rn_le (n d : Int) (hn : 0 ≤ n) : 0 ≤ rn n d ∧ rn n d ≤ n := ⟨Int.ediv_nonneg hn (by omega), Int.ediv_le_self _ hn⟩
theorem rn_bd (n d : Int) (hn : 0 ≤ n) (hnd : n ≤ d) (hd : 0 < d) : 0 ≤ rn n d ∧ rn n d ≤ rd n d :=
  ⟨(rn_le n d hn).1, Int.ediv_le_ediv (gcd_pos n d hd) hnd⟩
/-- the reduced fraction is valid exactly if redB says so -/
theorem vfB_red (n d : Int) (hn : 0 ≤ n) (hd : 0 < d) : vfB (rn n d) (rd n d) = redB n d := by
  cases h : redB n d with
  | true => exact red_valid n d hd h
  | false =>
    rw [Bool.eq_false_iff]
    intro k
    have kk := (vfB_iff _ _).1 k
    have hg := gcd_pos n d hd
    have h1 := rn_mul n d
    have h2 := rd_mul n d
    have : n ≤ d := by
      have h3 := Int.mul_le_mul_of_nonneg_right kk.2.2.2.1 (Int.le_of_lt hg)
      rw [h1, h2] at h3
      exact h3
    rw [redB_den ⟨hn, this⟩] at h
    simp at h
    omega
/-- -1, 0 or 1 -/
def cmpI (x y : Int) : Int := if x < y then -1 else if y < x then 1 else 0
theorem cmpI_lt {x y : Int} (h : x < y) : cmpI x y = -1 := by unfold cmpI; rw [if_pos h]
theorem cmpI_gt {x y : Int} (h : y < x) : cmpI x y = 1 := by unfold cmpI; rw [if_neg (by omega), if_pos h]
theorem cmpI_eq {x y : Int} (h : x = y) : cmpI x y = 0 := by unfold cmpI; rw [if_neg (by omega), if_neg (by omega)]
theorem cmpI_nlt {x y : Int} (h : ¬ x < y) : (cmpI x y < 0) = False := by
  rw [eq_iff_iff, iff_false]
  unfold cmpI
  rw [if_neg h]
  split <;> omega
def cmpF (an ad bn bd : Int) : Int := if vfB an ad && vfB bn bd then cmpI (an * bd) (bn * ad) else 0
theorem cmpF_no1 {an ad : Int} (bn bd : Int) (h : vfB an ad = false) : cmpF an ad bn bd = 0 := by unfold cmpF; rw [h]; rfl
theorem cmpF_no2 {bn bd : Int} (an ad : Int) (h : vfB bn bd = false) : cmpF an ad bn bd = 0 := by unfold cmpF; rw [h, Bool.and_false]; rfl
theorem cmpF_yes {an ad bn bd : Int} (ha : vfB an ad = true) (hb : vfB bn bd = true) : cmpF an ad bn bd = cmpI (an * bd) (bn * ad) := by unfold cmpF; rw [ha, hb]; rfl
/-- a denominator that MakeFrac takes -/
def mkB (d : Int) : Bool := decide (1 ≤ d) && decide (d ≤ 1000000)
theorem mkB_no {d : Int} (h : d < 1 ∨ 1000000 < d) : mkB d = false := by unfold mkB; simp; omega
theorem mkB_yes {d : Int} (h : 1 ≤ d ∧ d ≤ 1000000) : mkB d = true := by unfold mkB; simp; omega
theorem mul_bd2 {x y : Int} (_hx : 0 ≤ x) (hx' : x ≤ 1000000) (hy : 0 ≤ y) (hy' : y ≤ 10000) : x * y ≤ 10000000000 :=
  Int.le_trans (Int.mul_le_mul hx' hy' hy (by omega)) (by decide)
/-- a part of a number, -1 if there is none -/
def partI (n x d : Int) : Int := if decide (0 ≤ n) && decide (n ≤ 1000000) && vfB x d then n * x / d else -1
theorem partI_no1 {n : Int} (x d : Int) (h : n < 0 ∨ 1000000 < n) : partI n x d = -1 := by
  unfold partI; rw [if_neg (by simp; omega)]
theorem partI_no2 {x d : Int} (n : Int) (h : vfB x d = false) : partI n x d = -1 := by unfold partI; rw [h]; simp
theorem partI_yes {n x d : Int} (hn : 0 ≤ n ∧ n ≤ 1000000) (h : vfB x d = true) : partI n x d = n * x / d := by
  unfold partI; rw [if_pos (by simp [h, hn.1, hn.2])]
theorem qn_bd {x K : Int} (b : Bool) (h0 : 0 ≤ x) (h1 : x ≤ K) : 0 ≤ qn b x ∧ qn b x ≤ K := by
  unfold qn; split <;> omega
theorem red_bd {u d : Int} (b : Bool) (hu : 0 ≤ u) (hud : u ≤ d) (hd : 1 ≤ d) (hd' : d ≤ 1000000) : (0 ≤ qn b (rn u d) ∧ qn b (rn u d) ≤ 1000000) ∧ (0 ≤ qn b (rd u d) ∧ qn b (rd u d) ≤ 1000000) := by
  have h1 := rn_le u d hu
  have h2 := rd_le u d (by omega)
  have h3 := rd_pos u d (by omega)
  exact ⟨qn_bd b (by omega) (by omega), qn_bd b (by omega) (by omega)⟩
end Wsh
namespace Go.Proofs.Ythagafkjlecagab

/-- a rational number that is a valid fraction -/
def frB (q : Rat) : Bool := decide (0 ≤ q.num) && decide (q.num ≤ (q.den : Int)) && decide ((q.den : Int) ≤ 10000)
theorem frB_iff (q : Rat) : frB q = true ↔ 0 ≤ q.num ∧ q.num ≤ (q.den : Int) ∧ (q.den : Int) ≤ 10000 := by unfold frB; simp [and_assoc]
theorem den_pos (q : Rat) : 1 ≤ (q.den : Int) := by have := q.den_pos; omega
theorem q_mk (q : Rat) : Rat.divInt q.num q.den = q := Rat.num_divInt_den q
theorem rn_q {n d : Int} (h : 0 < d) : Wsh.rn n d = (Rat.divInt n d).num := by
  rw [Rat.num_divInt, Int.sign_eq_one_of_pos h, Int.one_mul, Int.gcd_comm]; rfl
theorem rd_q {n d : Int} (h : 0 < d) : Wsh.rd n d = ((Rat.divInt n d).den : Int) := by
  rw [Rat.den_divInt, if_neg (by omega)]
  unfold Wsh.rd
  rw [Int.gcd_comm]
  have : (d.natAbs : Int) = d := Int.natAbs_of_nonneg (by omega)
  rw [Int.natCast_ediv, this]
theorem redB_q {n d : Int} (h : 0 < d) : Wsh.redB n d = frB (Rat.divInt n d) := by
  have g := Wsh.gcd_pos n d h
  have e1 := Wsh.rn_mul n d
  have e2 := Wsh.rd_mul n d
  unfold frB Wsh.redB
  rw [← rn_q h, ← rd_q h]
  have a1 : 0 ≤ n ↔ 0 ≤ Wsh.rn n d := by
    constructor
    · intro hn; exact (Wsh.rn_le n d hn).1
    · intro hn; rw [← e1]; exact Int.mul_nonneg hn (by omega)
  have a2 : n ≤ d ↔ Wsh.rn n d ≤ Wsh.rd n d := by
    constructor
    · intro hn
      have : Wsh.rn n d * (Int.gcd n d : Int) ≤ Wsh.rd n d * (Int.gcd n d : Int) := by rw [e1, e2]; exact hn
      exact Int.le_of_mul_le_mul_right this g
    · intro hn
      have := Int.mul_le_mul_of_nonneg_right hn (Int.le_of_lt g)
      rw [e1, e2] at this; exact this
  rw [decide_eq_decide.2 a1, decide_eq_decide.2 a2]
theorem vf_q {n d : Int} (h : Wsh.vfB n d = true) : (Rat.divInt n d).num = n ∧ ((Rat.divInt n d).den : Int) = d ∧ frB (Rat.divInt n d) = true := by
  have hd := ((Wsh.vfB_iff n d).1 h).1
  obtain ⟨a, b, c⟩ := Wsh.red_self n d h
  rw [rn_q (by omega)] at a
  rw [rd_q (by omega)] at b
  rw [redB_q (by omega)] at c
  exact ⟨a, b, c⟩
theorem gcd_q (q : Rat) : Int.gcd q.num q.den = 1 := by
  have := q.reduced
  unfold Int.gcd
  simpa [Nat.Coprime] using this
theorem q_vf {q : Rat} (h : frB q = true) : Wsh.vfB q.num q.den = true := by
  rw [frB_iff] at h
  rw [Wsh.vfB_iff]
  exact ⟨den_pos q, h.2.2, h.1, h.2.1, gcd_q q⟩
theorem vf_frB (q : Rat) : Wsh.vfB q.num q.den = frB q := by
  rw [Bool.eq_iff_iff]
  refine ⟨fun h => ?_, q_vf⟩
  have := (Wsh.vfB_iff _ _).1 h
  rw [frB_iff]; exact ⟨this.2.2.1, this.2.2.2.1, this.2.1⟩
theorem mul_dpos (p q : Rat) : 0 < (p.den : Int) * (q.den : Int) := Int.mul_pos (by have := den_pos p; omega) (by have := den_pos q; omega)
theorem add_q (p q : Rat) : Rat.divInt (p.num * q.den + q.num * p.den) (p.den * q.den) = p + q := by
  conv => rhs; rw [← q_mk p, ← q_mk q]
  rw [Rat.divInt_add_divInt _ _ (by have := den_pos p; omega) (by have := den_pos q; omega)]
theorem sub_q (p q : Rat) : Rat.divInt (p.num * q.den - q.num * p.den) (p.den * q.den) = p - q := by
  conv => rhs; rw [← q_mk p, ← q_mk q]
  rw [Rat.divInt_sub_divInt _ _ (by have := den_pos p; omega) (by have := den_pos q; omega)]
/-- a sum of fractions as the program makes it -/
theorem add_red (p q : Rat) : Wsh.redB (p.num * q.den + q.num * p.den) (p.den * q.den) = frB (p + q) ∧ Wsh.rn (p.num * q.den + q.num * p.den) (p.den * q.den) = (p + q).num ∧ Wsh.rd (p.num * q.den + q.num * p.den) (p.den * q.den) = ((p + q).den : Int) := by
  rw [redB_q (mul_dpos p q), rn_q (mul_dpos p q), rd_q (mul_dpos p q), add_q]; exact ⟨rfl, rfl, rfl⟩
theorem sub_red (p q : Rat) : Wsh.redB (p.num * q.den - q.num * p.den) (p.den * q.den) = frB (p - q) ∧ Wsh.rn (p.num * q.den - q.num * p.den) (p.den * q.den) = (p - q).num ∧ Wsh.rd (p.num * q.den - q.num * p.den) (p.den * q.den) = ((p - q).den : Int) := by
  rw [redB_q (mul_dpos p q), rn_q (mul_dpos p q), rd_q (mul_dpos p q), sub_q]; exact ⟨rfl, rfl, rfl⟩
theorem frB_nonneg {q : Rat} (h : frB q = true) : 0 ≤ q := Rat.num_nonneg.1 ((frB_iff q).1 h).1
theorem le_one (q : Rat) : q ≤ 1 ↔ q.num ≤ (q.den : Int) := by
  rw [Rat.le_iff]; simp
theorem frB_le {q : Rat} (h : frB q = true) : q ≤ 1 := (le_one q).2 ((frB_iff q).1 h).2.1
/-- a fraction: from 0 to 1, and its lower number not too great -/
theorem frB_of {q : Rat} (h0 : 0 ≤ q) (h1 : q ≤ 1) (hd : (q.den : Int) ≤ 10000) : frB q = true := (frB_iff q).2 ⟨Rat.num_nonneg.2 h0, (le_one q).1 h1, hd⟩
theorem num_zero (q : Rat) : q.num = 0 ↔ q = 0 := Rat.num_eq_zero
theorem lt_q (p q : Rat) : p < q ↔ p.num * q.den < q.num * p.den := Rat.lt_iff p q
theorem q_ext {p q : Rat} (h : p.num = q.num) (h2 : (p.den : Int) = q.den) : p = q := Rat.ext h (by omega)
end Go.Proofs.Ythagafkjlecagab
namespace Go.Proofs.Ythagafkjlecagab

abbrev Led := List (Int × Rat)
/-- the share of an owner, 0 if there is none -/
def shareL : Led → Int → Rat
  | [], _ => 0
  | h :: t, o => if h.1 = o then h.2 else shareL t o
def Asc (L : Led) : Prop := L.Pairwise (fun a b => a.1 < b.1)
/-- shares are greater than 0 -/
def Pos (L : Led) : Prop := ∀ h ∈ L, 0 < h.2
/-- what the first holdings give when a share is set, and whether it has been placed -/
def setP (o : Int) (q : Rat) : Bool → Led → Led × Bool
  | d, [] => ([], d)
  | d, h :: t => ((if !d && decide (o ≤ h.1) then [(o, q)] else []) ++ (if h.1 ≠ o then [h] else []) ++ (setP o q (d || decide (o ≤ h.1)) t).1, (setP o q (d || decide (o ≤ h.1)) t).2)
/-- another share for an owner -/
def setL (L : Led) (o : Int) (q : Rat) : Led := (setP o q (decide (q = 0)) L).1 ++ (if (setP o q (decide (q = 0)) L).2 then [] else [(o, q)])
theorem setP_append (o : Int) (q : Rat) : ∀ (A B : Led) (d : Bool), setP o q d (A ++ B) = ((setP o q d A).1 ++ (setP o q (setP o q d A).2 B).1, (setP o q (setP o q d A).2 B).2) := by
  intro A
  induction A with
  | nil => intro B d; simp [setP]
  | cons h t ih => intro B d; simp only [List.cons_append, setP, ih, List.append_assoc]
/-- once it is placed, the holding of the owner is left out -/
theorem setP_done (o : Int) (q : Rat) : ∀ L : Led, setP o q true L = (L.filter (fun h => decide (h.1 ≠ o)), true) := by
  intro L
  induction L with
  | nil => rfl
  | cons h t ih =>
    simp only [setP, Bool.true_or, Bool.not_true, Bool.false_and, ih]
    by_cases e : h.1 = o
    · simp [e]
    · simp [e]
theorem share_none {L : Led} {o : Int} (h : ∀ x ∈ L, x.1 ≠ o) : shareL L o = 0 := by
  induction L with
  | nil => rfl
  | cons x t ih =>
    show (if x.1 = o then x.2 else shareL t o) = 0
    rw [if_neg (h x (by simp)), ih (fun y hy => h y (by simp [hy]))]
theorem share_mem {L : Led} {o : Int} (h : shareL L o ≠ 0) : ∃ x ∈ L, x.1 = o ∧ x.2 = shareL L o := by
  induction L with
  | nil => exact absurd rfl h
  | cons x t ih =>
    by_cases e : x.1 = o
    · exact ⟨x, by simp, e, by show x.2 = (if x.1 = o then x.2 else shareL t o); rw [if_pos e]⟩
    · have e2 : shareL (x :: t) o = shareL t o := by show (if x.1 = o then x.2 else shareL t o) = _; rw [if_neg e]
      rw [e2] at h ⊢
      obtain ⟨y, hy, h1, h2⟩ := ih h
      exact ⟨y, by simp [hy], h1, h2⟩
theorem share_of_mem {L : Led} (ha : Asc L) {x : Int × Rat} (hx : x ∈ L) : shareL L x.1 = x.2 := by
  induction L with
  | nil => simp at hx
  | cons y t ih =>
    have h1 := List.pairwise_cons.1 ha
    rcases List.mem_cons.1 hx with rfl | h
    · show (if x.1 = x.1 then x.2 else _) = _; rw [if_pos rfl]
    · have := h1.1 x h
      show (if y.1 = x.1 then y.2 else shareL t x.1) = _
      rw [if_neg (by omega), ih h1.2 h]
/-- owners of a list that ascends are known by it -/
theorem led_ext : ∀ (L M : Led), Asc L → Asc M → Pos L → Pos M → (∀ o, shareL L o = shareL M o) → L = M := by
  intro L
  induction L with
  | nil =>
    intro M _ hM _ pM h
    cases M with
    | nil => rfl
    | cons y t =>
      have h1 := h y.1
      rw [share_of_mem hM (by simp : y ∈ y :: t)] at h1
      have h2 := pM y (by simp)
      rw [← h1] at h2
      exact absurd (show (0 : Rat) < 0 from h2) (by decide)
  | cons x t ih =>
    intro M hL hM pL pM h
    have hx := h x.1
    rw [share_of_mem hL (by simp : x ∈ x :: t)] at hx
    have px := pL x (by simp)
    cases M with
    | nil => rw [show shareL [] x.1 = 0 from rfl] at hx; rw [hx] at px; exact absurd px (by decide)
    | cons y s =>
      have py := pM y (by simp)
      have hy := h y.1
      rw [share_of_mem hM (by simp : y ∈ y :: s)] at hy
      have a := List.pairwise_cons.1 hL
      have b := List.pairwise_cons.1 hM
      have e : x.1 = y.1 := by
        obtain ⟨u, hu, u1, _⟩ := share_mem (L := y :: s) (o := x.1) (by rw [← hx]; exact fun e => by rw [e] at px; exact absurd px (by decide))
        obtain ⟨v, hv, v1, _⟩ := share_mem (L := x :: t) (o := y.1) (by rw [hy]; exact fun e => by rw [e] at py; exact absurd py (by decide))
        rcases List.mem_cons.1 hu with rfl | hu
        · exact u1.symm
        · rcases List.mem_cons.1 hv with rfl | hv
          · exact v1
          · have := b.1 u hu; have := a.1 v hv; omega
      have e2 : x.2 = y.2 := by
        rw [hx, e]; exact share_of_mem hM (by simp)
      have exy : x = y := Prod.ext e e2
      subst exy
      congr 1
      refine ih s a.2 b.2 (fun z hz => pL z (by simp [hz])) (fun z hz => pM z (by simp [hz])) (fun o => ?_)
      by_cases eo : x.1 = o
      · subst eo
        rw [share_none (fun z hz => by have := a.1 z hz; omega), share_none (fun z hz => by have := b.1 z hz; omega)]
      · have := h o
        rw [show shareL (x :: t) o = shareL t o from by show (if x.1 = o then _ else _) = _; rw [if_neg eo], show shareL (x :: s) o = shareL s o from by show (if x.1 = o then _ else _) = _; rw [if_neg eo]] at this
        exact this
theorem share_filter (L : Led) (o p : Int) : shareL (L.filter (fun h => decide (h.1 ≠ o))) p = if p = o then 0 else shareL L p := by
  induction L with
  | nil => show (0 : Rat) = _; split <;> rfl
  | cons h t ih =>
    by_cases e : h.1 = o
    · rw [List.filter_cons_of_neg (by simp [e]), ih]
      split
      · rfl
      · next n => show _ = (if h.1 = p then h.2 else shareL t p); rw [if_neg (by omega)]
    · rw [List.filter_cons_of_pos (by simp [e])]
      show (if h.1 = p then h.2 else shareL _ p) = _
      rw [ih]
      by_cases ep : h.1 = p
      · rw [if_pos ep, if_neg (by omega)]; show _ = (if h.1 = p then h.2 else shareL t p); rw [if_pos ep]
      · rw [if_neg ep]
        split
        · rfl
        · show _ = (if h.1 = p then h.2 else shareL t p); rw [if_neg ep]
/-- as a list: the share is placed ahead of the first greater owner -/
theorem setL_zero (L : Led) (o : Int) : setL L o 0 = L.filter (fun h => decide (h.1 ≠ o)) := by
  unfold setL
  rw [show decide ((0 : Rat) = 0) = true from by decide, setP_done]; simp
def insL (o : Int) (q : Rat) : Led → Led
  | [] => [(o, q)]
  | h :: t => if o ≤ h.1 then (o, q) :: (h :: t).filter (fun h => decide (h.1 ≠ o)) else h :: insL o q t
theorem setL_ins {q : Rat} (hq : q ≠ 0) (L : Led) (o : Int) : setL L o q = insL o q L := by
  unfold setL
  rw [decide_eq_false hq]
  induction L with
  | nil => rfl
  | cons h t ih =>
    show _ = if o ≤ h.1 then _ else _
    by_cases e : o ≤ h.1
    · rw [if_pos e]
      simp only [setP, Bool.not_false, Bool.true_and, decide_eq_true e, Bool.false_or, setP_done]
      by_cases e2 : h.1 = o
      · simp [e2]
      · simp [e2]
    · rw [if_neg e]
      simp only [setP, Bool.not_false, Bool.true_and, decide_eq_false e, Bool.false_or]
      rw [← ih]
      have : h.1 ≠ o := by omega
      simp [this]
theorem ins_share {L : Led} (ha : Asc L) (o : Int) (q : Rat) (p : Int) : shareL (insL o q L) p = if p = o then q else shareL L p := by
  induction L with
  | nil =>
    show (if o = p then q else 0) = (if p = o then q else 0)
    by_cases e : p = o
    · rw [if_pos e, if_pos e.symm]
    · rw [if_neg e, if_neg (fun c => e c.symm)]
  | cons h t ih =>
    have h1 := List.pairwise_cons.1 ha
    show shareL (if o ≤ h.1 then _ else _) p = _
    by_cases e : o ≤ h.1
    · rw [if_pos e]
      show (if o = p then q else shareL _ p) = _
      rw [share_filter]
      by_cases ep : p = o
      · rw [if_pos ep.symm, if_pos ep]
      · rw [if_neg (fun c => ep c.symm), if_neg ep, if_neg ep]
    · rw [if_neg e]
      show (if h.1 = p then h.2 else shareL (insL o q t) p) = _
      rw [ih h1.2]
      by_cases ep : h.1 = p
      · rw [if_pos ep, if_neg (by omega)]; show _ = (if h.1 = p then h.2 else shareL t p); rw [if_pos ep]
      · rw [if_neg ep]
        split
        · rfl
        · show _ = (if h.1 = p then h.2 else shareL t p); rw [if_neg ep]
theorem share_set {L : Led} (ha : Asc L) (o : Int) (q : Rat) (p : Int) : shareL (setL L o q) p = if p = o then q else shareL L p := by
  by_cases hq : q = 0
  · subst hq; rw [setL_zero, share_filter]
  · rw [setL_ins hq, ins_share ha]
theorem asc_filter {L : Led} (ha : Asc L) (f : Int × Rat → Bool) : Asc (L.filter f) := List.Pairwise.filter f ha
theorem ins_mem {o : Int} {q : Rat} : ∀ {L : Led} {x : Int × Rat}, x ∈ insL o q L → x = (o, q) ∨ x ∈ L := by
  intro L
  induction L with
  | nil => intro x hx; left; simpa [insL] using hx
  | cons h t ih =>
    intro x hx
    unfold insL at hx
    split at hx
    · rcases List.mem_cons.1 hx with hx | hx
      · exact .inl hx
      · exact .inr (List.mem_filter.1 hx).1
    · rcases List.mem_cons.1 hx with hx | hx
      · exact .inr (by simp [hx])
      · rcases ih hx with h | h
        · exact .inl h
        · exact .inr (by simp [h])
theorem asc_ins {L : Led} (ha : Asc L) (o : Int) (q : Rat) : Asc (insL o q L) := by
  induction L with
  | nil => exact List.pairwise_singleton _ _
  | cons h t ih =>
    have h1 := List.pairwise_cons.1 ha
    unfold insL
    split
    · next e =>
      refine List.pairwise_cons.2 ⟨fun x hx => ?_, asc_filter ha _⟩
      have hm := List.mem_filter.1 hx
      have hne : x.1 ≠ o := by simpa using hm.2
      have hle : h.1 ≤ x.1 := by
        rcases List.mem_cons.1 hm.1 with rfl | hx
        · exact Int.le_refl _
        · exact Int.le_of_lt (h1.1 x hx)
      show o < x.1
      omega
    · next e =>
      refine List.pairwise_cons.2 ⟨fun x hx => ?_, ih h1.2⟩
      rcases ins_mem hx with rfl | hx
      · show h.1 < o; omega
      · exact h1.1 x hx
theorem asc_set {L : Led} (ha : Asc L) (o : Int) (q : Rat) : Asc (setL L o q) := by
  by_cases hq : q = 0
  · subst hq; rw [setL_zero]; exact asc_filter ha _
  · rw [setL_ins hq]; exact asc_ins ha o q
theorem pos_set {L : Led} (hp : Pos L) (o : Int) {q : Rat} (h : 0 ≤ q) : Pos (setL L o q) := by
  by_cases hq : q = 0
  · subst hq; rw [setL_zero]; exact fun x hx => hp x ((List.mem_filter.1 hx).1)
  · rw [setL_ins hq]
    intro x hx
    rcases ins_mem hx with rfl | hx
    · show 0 < q; grind
    · exact hp x hx
end Go.Proofs.Ythagafkjlecagab
namespace Go.Proofs.Ythagafkjlecagab

/-- the sum of all shares -/
def totL : Led → Rat
  | [] => 0
  | h :: t => h.2 + totL t
theorem tot_append (A B : Led) : totL (A ++ B) = totL A + totL B := by
  induction A with
  | nil => show totL B = 0 + totL B; grind
  | cons h t ih => show h.2 + totL (t ++ B) = h.2 + totL t + totL B; rw [ih]; grind
theorem tot_take (L : Led) (k : Nat) : totL L = totL (L.take k) + totL (L.drop k) := by rw [← tot_append, List.take_append_drop]
theorem tot_nonneg {L : Led} (hp : Pos L) : 0 ≤ totL L := by
  induction L with
  | nil => exact Rat.le_refl
  | cons h t ih =>
    have h1 := hp h (by simp)
    have h2 := ih (fun x hx => hp x (by simp [hx]))
    show 0 ≤ h.2 + totL t
    grind
theorem tot_pos {L : Led} (hp : Pos L) (hn : L ≠ []) : 0 < totL L := by
  cases L with
  | nil => exact absurd rfl hn
  | cons h t =>
    have h1 := hp h (by simp)
    have h2 := tot_nonneg (L := t) (fun x hx => hp x (by simp [hx]))
    show 0 < h.2 + totL t
    grind
/-- a valid ledger -/
structure VL (L : Led) : Prop where
  len : L.length ≤ 12
  own : ∀ h ∈ L, 1 ≤ h.1 ∧ h.1 ≤ 999
  fr : ∀ h ∈ L, frB h.2 = true
  pos : Pos L
  asc : Asc L
  sums : ∀ k, k ≤ L.length → frB (totL (L.take k)) = true
  one : totL L = 1
def vlB (L : Led) : Bool := decide (L.length ≤ 12) && L.all (fun h => decide (1 ≤ h.1) && decide (h.1 ≤ 999)) && L.all (fun h => frB h.2) && L.all (fun h => decide (0 < h.2)) && decide (L.Pairwise (fun a b => a.1 < b.1)) && (List.range (L.length + 1)).all (fun k => frB (totL (L.take k))) && decide (totL L = 1)
theorem vl_iff (L : Led) : vlB L = true ↔ VL L := by
  unfold vlB
  simp only [Bool.and_eq_true, decide_eq_true_eq, List.all_eq_true, List.mem_range]
  constructor
  · rintro ⟨⟨⟨⟨⟨⟨a, b⟩, c⟩, d⟩, e⟩, f⟩, g⟩
    exact ⟨a, b, c, d, e, fun k hk => f k (by omega), g⟩
  · intro h
    exact ⟨⟨⟨⟨⟨⟨h.len, h.own⟩, h.fr⟩, h.pos⟩, h.asc⟩, fun k hk => h.sums k (by omega)⟩, h.one⟩
theorem frB_zero : frB 0 = true := by decide
theorem frB_one : frB 1 = true := by decide
/-- no part of a valid ledger alone is valid -/
theorem vl_part {L : Led} (h : VL L) {k : Nat} (hk : k < L.length) : ¬ VL (L.take k) := fun c => by
  have h1 := tot_take L k
  rw [h.one, c.one] at h1
  have h2 := tot_pos (L := L.drop k) (fun x hx => h.pos x (List.mem_of_mem_drop hx)) (fun e => by have := congrArg List.length e; rw [List.length_drop] at this; simp at this; omega)
  grind
theorem share_nonneg {L : Led} (hp : Pos L) (o : Int) : 0 ≤ shareL L o := by
  by_cases h : shareL L o = 0
  · rw [h]; exact Rat.le_refl
  · obtain ⟨x, hx, _, h2⟩ := share_mem h
    rw [← h2]; exact Rat.le_of_lt (hp x hx)
theorem share_fr {L : Led} (hv : VL L) (o : Int) : frB (shareL L o) = true := by
  by_cases h : shareL L o = 0
  · rw [h]; exact frB_zero
  · obtain ⟨x, hx, _, h2⟩ := share_mem h
    rw [← h2]; exact hv.fr x hx
theorem share_own {L : Led} (hv : VL L) {o : Int} (h : shareL L o ≠ 0) : 1 ≤ o ∧ o ≤ 999 := by
  obtain ⟨x, hx, h1, _⟩ := share_mem h
  rw [← h1]; exact hv.own x hx
/-- the ledger after a part was sold -/
def soldL (L : Led) (f t : Int) (p : Rat) : Led := setL (setL L f (shareL L f - p)) t (shareL L t + p)
/-- whether it can be sold: p is a fraction -/
def sellB (L : Led) (f t : Int) (p : Rat) : Bool :=
  frB (shareL L f - p) && frB (shareL L t + p) && decide (p ≠ 0) && decide (f ≠ t) && decide (1 ≤ t) && decide (t ≤ 999) && vlB (soldL L f t p)
theorem sell_iff (L : Led) (f t : Int) (p : Rat) : sellB L f t p = true ↔ frB (shareL L f - p) = true ∧ frB (shareL L t + p) = true ∧ p ≠ 0 ∧ f ≠ t ∧ 1 ≤ t ∧ t ≤ 999 ∧ VL (soldL L f t p) := by
  unfold sellB; simp [vl_iff, and_assoc]
theorem sold_share {L : Led} (ha : Asc L) {f t : Int} (p : Rat) (o : Int) : shareL (soldL L f t p) o = if o = t then shareL L t + p else if o = f then shareL L f - p else shareL L o := by
  unfold soldL
  rw [share_set (asc_set ha _ _), share_set ha]
/-- P20: what is sold can be bought back -/
theorem sell_back {L : Led} (hv : VL L) {f t : Int} {p : Rat} (hp : 0 ≤ p) (h : sellB L f t p = true) : sellB (soldL L f t p) t f p = true ∧ soldL (soldL L f t p) t f p = L := by
  obtain ⟨h1, h2, h3, h4, h5, h6, hm⟩ := (sell_iff _ _ _ _).1 h
  have st : shareL (soldL L f t p) t = shareL L t + p := by rw [sold_share hv.asc, if_pos rfl]
  have sf : shareL (soldL L f t p) f = shareL L f - p := by rw [sold_share hv.asc, if_neg h4, if_pos rfl]
  have e1 : shareL L t + p - p = shareL L t := Rat.add_sub_cancel
  have e2 : shareL L f - p + p = shareL L f := Rat.sub_add_cancel
  have back : soldL (soldL L f t p) t f p = L := by
    refine led_ext _ _ ?_ hv.asc ?_ hv.pos (fun o => ?_)
    · exact asc_set (asc_set hm.asc _ _) _ _
    · unfold soldL
      refine pos_set (pos_set hm.pos _ ?_) _ ?_
      · have := st; unfold soldL at this; rw [this, e1]; exact share_nonneg hv.pos t
      · have := sf; unfold soldL at this; rw [this, e2]; exact share_nonneg hv.pos f
    · rw [sold_share hm.asc, st, sf, e1, e2, sold_share hv.asc]
      by_cases o1 : o = f
      · rw [if_pos o1, o1]
      · rw [if_neg o1]
        by_cases o2 : o = t
        · rw [if_pos o2, o2]
        · rw [if_neg o2, if_neg o2, if_neg o1]
  refine ⟨(sell_iff _ _ _ _).2 ⟨?_, ?_, h3, fun e => h4 e.symm, ?_, ?_, by rw [back]; exact hv⟩, back⟩
  · rw [st, e1]; exact share_fr hv t
  · rw [sf, e2]; exact share_fr hv f
  · refine (share_own hv (o := f) (fun e => ?_)).1
    have := frB_nonneg h1; rw [e] at this; exact h3 (by grind)
  · refine (share_own hv (o := f) (fun e => ?_)).2
    have := frB_nonneg h1; rw [e] at this; exact h3 (by grind)

theorem len_filter {L : Led} (ha : Asc L) (hp : Pos L) (o : Int) : (L.filter (fun h => decide (h.1 ≠ o))).length + (if shareL L o = 0 then 0 else 1) = L.length := by
  induction L with
  | nil => rfl
  | cons h t ih =>
    have h1 := List.pairwise_cons.1 ha
    have pt : Pos t := fun x hx => hp x (by simp [hx])
    by_cases e : h.1 = o
    · have hz : shareL t o = 0 := share_none (fun x hx => by have := h1.1 x hx; omega)
      have hs : shareL (h :: t) o ≠ 0 := by
        show (if h.1 = o then h.2 else _) ≠ 0
        rw [if_pos e]; intro c; have := hp h (by simp); rw [c] at this; exact absurd this (by decide)
      have := ih h1.2 pt
      rw [if_pos hz] at this
      rw [List.filter_cons_of_neg (by simp [e]), if_neg hs, List.length_cons]; omega
    · have hs : shareL (h :: t) o = shareL t o := by show (if h.1 = o then h.2 else _) = _; rw [if_neg e]
      rw [List.filter_cons_of_pos (by simp [e]), hs, List.length_cons, List.length_cons]
      have := ih h1.2 pt
      omega
theorem len_ins {L : Led} (ha : Asc L) (hp : Pos L) (o : Int) (q : Rat) : (insL o q L).length = L.length + (if shareL L o = 0 then 1 else 0) := by
  induction L with
  | nil => rfl
  | cons h t ih =>
    have h1 := List.pairwise_cons.1 ha
    have pt : Pos t := fun x hx => hp x (by simp [hx])
    show (if o ≤ h.1 then _ else _ : Led).length = _
    by_cases e : o ≤ h.1
    · rw [if_pos e, List.length_cons]
      have := len_filter ha hp o
      split at this <;> split <;> first | omega | contradiction
    · have hs : shareL (h :: t) o = shareL t o := by show (if h.1 = o then h.2 else _) = _; rw [if_neg (by omega)]
      rw [if_neg e, List.length_cons, List.length_cons, ih h1.2 pt, hs]; omega
/-- P23: who joins shares has one holding less, or as many -/
theorem join_len {L : Led} (hv : VL L) {f t : Int} (hf : shareL L f ≠ 0) (hft : f ≠ t) : (soldL L f t (shareL L f)).length + (if shareL L t = 0 then 0 else 1) = L.length ∧ shareL (soldL L f t (shareL L f)) f = 0 := by
  refine ⟨?_, ?_⟩
  · unfold soldL
    rw [show shareL L f - shareL L f = 0 from Rat.sub_self, setL_zero]
    have hne : shareL L t + shareL L f ≠ 0 := by
      have a := share_nonneg hv.pos t
      have b := share_nonneg hv.pos f
      intro c; exact hf (by grind)
    have ha := asc_filter hv.asc (fun h => decide (h.1 ≠ f))
    have hp : Pos (L.filter (fun h => decide (h.1 ≠ f))) := fun x hx => hv.pos x (List.mem_filter.1 hx).1
    have es : shareL (L.filter (fun h => decide (h.1 ≠ f))) t = shareL L t := by rw [share_filter, if_neg (fun e => hft e.symm)]
    rw [setL_ins hne, len_ins ha hp, es]
    have := len_filter hv.asc hv.pos f
    rw [if_neg hf] at this
    split <;> omega
  · rw [sold_share hv.asc, if_neg hft, if_pos rfl, Rat.sub_self]
end Go.Proofs.Ythagafkjlecagab
namespace Go.Proofs.Ythagafkjlecagab

/-- the ledger after each heir got p -/
def giveL (p : Rat) : Led → List Int → Led
  | L, [] => L
  | L, h :: t => giveL p (setL L h (shareL L h + p)) t
theorem give_snoc (p : Rat) : ∀ (hs : List Int) (L : Led) (h : Int), giveL p L (hs ++ [h]) = setL (giveL p L hs) h (shareL (giveL p L hs) h + p) := by
  intro hs
  induction hs with
  | nil => intro L h; rfl
  | cons x t ih => intro L h; exact ih _ h
theorem give_asc (p : Rat) : ∀ (hs : List Int) (L : Led), Asc L → Asc (giveL p L hs) := by
  intro hs
  induction hs with
  | nil => intro L h; exact h
  | cons x t ih => intro L h; exact ih _ (asc_set h _ _)
theorem give_share (p : Rat) : ∀ (hs : List Int) (L : Led), Asc L → hs.Nodup → ∀ o, shareL (giveL p L hs) o = shareL L o + (if o ∈ hs then p else 0) := by
  intro hs
  induction hs with
  | nil => intro L _ _ o; show shareL L o = shareL L o + (if o ∈ [] then p else 0); rw [if_neg (by simp)]; grind
  | cons x t ih =>
    intro L ha hn o
    have hn' := List.nodup_cons.1 hn
    show shareL (giveL p (setL L x (shareL L x + p)) t) o = _
    rw [ih _ (asc_set ha _ _) hn'.2, share_set ha]
    by_cases e : o = x
    · subst e
      rw [if_pos rfl, if_neg hn'.1, if_pos (by simp)]; grind
    · rw [if_neg e]
      by_cases m : o ∈ t
      · rw [if_pos m, if_pos (by simp [m])]
      · rw [if_neg m, if_neg (by simp [m, e])]
theorem give_pos {p : Rat} (h0 : 0 ≤ p) : ∀ (hs : List Int) (L : Led), Pos L → Pos (giveL p L hs) := by
  intro hs
  induction hs with
  | nil => intro L h; exact h
  | cons x t ih => intro L h; exact ih _ (pos_set h _ (by have := share_nonneg h x; grind))
/-- an equal part of a share -/
theorem part_q (q : Rat) {m : Int} (hm : 0 < m) : Rat.divInt q.num (q.den * m) = q / (m : Rat) := by
  have h1 : (m : Rat) ≠ 0 := by intro c; have := (Rat.intCast_eq_zero_iff).1 c; omega
  have h2 : ((q.den : Int) : Rat) ≠ 0 := by intro c; have := (Rat.intCast_eq_zero_iff).1 c; have := den_pos q; omega
  have e : q = (q.num : Rat) / ((q.den : Int) : Rat) := by rw [← Rat.divInt_eq_div, q_mk]
  rw [Rat.divInt_eq_div, Rat.intCast_mul]
  conv => rhs; rw [e]
  grind
/-- P22: one heir gets all -/
theorem heir_one {L : Led} (ha : Asc L) {f t : Int} (hft : f ≠ t) : giveL (shareL L f) (setL L f 0) [t] = soldL L f t (shareL L f) := by
  show setL (setL L f 0) t (shareL (setL L f 0) t + shareL L f) = _
  unfold soldL
  rw [share_set ha, if_neg (fun e => hft e.symm), show shareL L f - shareL L f = 0 from Rat.sub_self]
/-- P21: each heir has as much more -/
theorem heir_more {L : Led} (ha : Asc L) {owner : Int} {hs : List Int} (hn : hs.Nodup) (ho : owner ∉ hs) (p : Rat) :
    (∀ h ∈ hs, shareL (giveL p (setL L owner 0) hs) h = shareL L h + p) ∧ shareL (giveL p (setL L owner 0) hs) owner = 0 := by
  refine ⟨fun h hm => ?_, ?_⟩
  · rw [give_share p hs _ (asc_set ha _ _) hn, if_pos hm, share_set ha, if_neg (fun e : h = owner => ho (by rw [← e]; exact hm))]
  · rw [give_share p hs _ (asc_set ha _ _) hn, if_neg ho, share_set ha, if_pos rfl]; grind

/-- CommonDen: the least common multiple of the first k denominators -/
def lcmTo (L : Led) : Nat → Nat
  | 0 => 1
  | k + 1 => Nat.lcm (lcmTo L k) (L.getD k (0, 0)).2.den
theorem lcm_succ (L : Led) (k : Nat) : lcmTo L (k + 1) = Nat.lcm (lcmTo L k) (L.getD k (0, 0)).2.den := rfl
theorem lcm_pos (L : Led) : ∀ k, 0 < lcmTo L k := by
  intro k
  induction k with
  | zero => exact Nat.one_pos
  | succ k ih => exact Nat.lcm_pos ih (Rat.den_pos _)
theorem lcm_dvd (L : Led) : ∀ k i, i < k → (L.getD i (0, 0)).2.den ∣ lcmTo L k := by
  intro k
  induction k with
  | zero => intro i h; omega
  | succ k ih =>
    intro i h
    by_cases e : i = k
    · subst e; exact Nat.dvd_lcm_right _ _
    · exact Nat.dvd_trans (ih i (by omega)) (Nat.dvd_lcm_left _ _)
theorem lcm_mono (L : Led) (k : Nat) : lcmTo L k ≤ lcmTo L (k + 1) := Nat.le_of_dvd (lcm_pos L (k + 1)) (Nat.dvd_lcm_left _ _)
theorem lcm_mono' (L : Led) : ∀ n k, lcmTo L k ≤ lcmTo L (k + n) := by
  intro n
  induction n with
  | zero => intro k; exact Nat.le_refl _
  | succ n ih => intro k; exact Nat.le_trans (ih k) (lcm_mono L (k + n))
/-- a share times a number that its denominator divides -/
theorem unit_q {q : Rat} {n : Nat} (h : q.den ∣ n) : (((n / q.den : Nat) : Int) * q.num : Int) = ((n : Rat) * q : Rat) := by
  obtain ⟨c, rfl⟩ := h
  have hd : 0 < q.den := q.den_pos
  rw [Nat.mul_div_cancel_left _ hd]
  have h2 : ((q.den : Int) : Rat) ≠ 0 := by intro e; have := (Rat.intCast_eq_zero_iff).1 e; omega
  have e : q * ((q.den : Int) : Rat) = (q.num : Rat) := by
    conv => lhs; arg 1; rw [← q_mk q, Rat.divInt_eq_div]
    exact Rat.div_mul_cancel h2
  rw [Rat.intCast_mul, ← e]
  have e2 : ((q.den * c : Nat) : Rat) = ((q.den : Int) : Rat) * (((c : Nat) : Int) : Rat) := by
    rw [← Rat.intCast_mul]; rfl
  rw [e2]; grind
/-- UnitsOf: shares times a number -/
def unitsL (L : Led) (n : Nat) : List Int := L.map (fun h => ((n / h.2.den : Nat) : Int) * h.2.num)
/-- P24: the units of a ledger whose shares are q together, are q times the number -/
theorem units_sum : ∀ (L : Led) (n : Nat), (∀ h ∈ L, h.2.den ∣ n) → (((unitsL L n).sum : Int) : Rat) = (n : Rat) * totL L := by
  intro L
  induction L with
  | nil => intro n _; show ((0 : Int) : Rat) = (n : Rat) * 0; grind
  | cons h t ih =>
    intro n hd
    show (((((n / h.2.den : Nat) : Int) * h.2.num + (unitsL t n).sum : Int)) : Rat) = (n : Rat) * (h.2 + totL t)
    rw [Rat.intCast_add, ih n (fun x hx => hd x (by simp [hx])), unit_q (hd h (by simp))]
    grind
theorem units_whole {L : Led} (h : totL L = 1) {n : Nat} (hd : ∀ x ∈ L, x.2.den ∣ n) : (unitsL L n).sum = (n : Int) := by
  have := units_sum L n hd
  rw [h] at this
  have e : (((unitsL L n).sum : Int) : Rat) = ((n : Int) : Rat) := by rw [this]; show (n : Rat) * 1 = (n : Rat); grind
  exact Rat.intCast_inj.1 e
/-- P25: a unit divided by the number is the share -/
theorem unit_share {q : Rat} {n : Nat} (hn : 0 < n) (h : q.den ∣ n) : Rat.divInt (((n / q.den : Nat) : Int) * q.num) n = q := by
  have h2 : ((n : Int) : Rat) ≠ 0 := by intro e; have := (Rat.intCast_eq_zero_iff).1 e; omega
  rw [Rat.divInt_eq_div, unit_q h]
  show ((n : Int) : Rat) * q / ((n : Int) : Rat) = q
  grind
theorem lcm_all {L : Led} : ∀ x ∈ L, x.2.den ∣ lcmTo L L.length := by
  intro x hx
  obtain ⟨i, hi, rfl⟩ := List.getElem_of_mem hx
  have := lcm_dvd L L.length i hi
  rwa [List.getD_eq_getElem?_getD, List.getElem?_eq_getElem hi] at this
end Go.Proofs.Ythagafkjlecagab
namespace Go.Proofs.Ythagafkjlecagab

abbrev Hd := Int × Int × Int
abbrev hd0 : Hd := (0, 0, 0)
def ledOf (hs : List Hd) : Led := hs.map fun h => (h.1, Rat.divInt h.2.1 h.2.2)
def rawH (h : Int × Rat) : Hd := (h.1, h.2.num, (h.2.den : Int))
def rawL (L : Led) : List Hd := L.map rawH
/-- the numbers of holdings, one after the other -/
def flatH : List Hd → List Int
  | [] => []
  | h :: t => h.1 :: h.2.1 :: h.2.2 :: flatH t
theorem flat_len : ∀ hs : List Hd, (flatH hs).length = hs.length * 3 := by
  intro hs
  induction hs with
  | nil => rfl
  | cons h t ih => show (flatH t).length + 1 + 1 + 1 = (t.length + 1) * 3; rw [ih]; omega
theorem flat_append : ∀ a b : List Hd, flatH (a ++ b) = flatH a ++ flatH b := by
  intro a b
  induction a with
  | nil => rfl
  | cons h t ih => show h.1 :: h.2.1 :: h.2.2 :: flatH (t ++ b) = _; rw [ih]; rfl
theorem flat_get : ∀ (hs : List Hd) (k : Nat), k < hs.length → (flatH hs).getD (k * 3) 0 = (hs.getD k hd0).1 ∧ (flatH hs).getD (k * 3 + 1) 0 = (hs.getD k hd0).2.1 ∧ (flatH hs).getD (k * 3 + 2) 0 = (hs.getD k hd0).2.2 := by
  intro hs
  induction hs with
  | nil => intro k h; simp at h
  | cons h t ih =>
    intro k hk
    cases k with
    | zero => exact ⟨rfl, rfl, rfl⟩
    | succ k =>
      have := ih k (by simpa using hk)
      rw [show (k + 1) * 3 = k * 3 + 1 + 1 + 1 from by omega]
      exact this
theorem flat_take (hs : List Hd) (k : Nat) : (flatH hs).take (k * 3) = flatH (hs.take k) := by
  induction hs generalizing k with
  | nil => simp [flatH]
  | cons h t ih =>
    cases k with
    | zero => rfl
    | succ k =>
      rw [show (k + 1) * 3 = k * 3 + 1 + 1 + 1 from by omega]
      show h.1 :: h.2.1 :: h.2.2 :: (flatH t).take (k * 3) = _
      rw [ih]; rfl
theorem flat_drop (hs : List Hd) (k : Nat) : (flatH hs).drop (k * 3) = flatH (hs.drop k) := by
  induction hs generalizing k with
  | nil => simp [flatH]
  | cons h t ih =>
    cases k with
    | zero => rfl
    | succ k =>
      rw [show (k + 1) * 3 = k * 3 + 1 + 1 + 1 from by omega]
      show (flatH t).drop (k * 3) = _
      rw [ih]; rfl
theorem getD_lt {α : Type} (l : List α) {k : Nat} (h : k < l.length) (d : α) : l.getD k d = l[k] := by
  rw [List.getD_eq_getElem?_getD, List.getElem?_eq_getElem h]; rfl
theorem take_snocD {α : Type} (l : List α) {k : Nat} (h : k < l.length) (d : α) : l.take (k + 1) = l.take k ++ [l.getD k d] := by
  rw [List.take_succ_eq_append_getElem h, getD_lt l h]

theorem led_len (hs : List Hd) : (ledOf hs).length = hs.length := by unfold ledOf; simp
theorem led_raw (L : Led) : ledOf (rawL L) = L := by
  unfold ledOf rawL
  rw [List.map_map]
  conv => rhs; rw [← List.map_id L]
  refine List.map_congr_left fun h _ => ?_
  show (h.1, Rat.divInt h.2.num h.2.den) = h
  rw [q_mk]
theorem raw_len (L : Led) : (rawL L).length = L.length := by unfold rawL; simp
theorem raw_get (L : Led) {k : Nat} (h : k < L.length) : (rawL L).getD k hd0 = rawH (L.getD k (0, 0)) := by
  rw [getD_lt _ (by rw [raw_len]; exact h), getD_lt _ h]; unfold rawL; simp
theorem led_get (hs : List Hd) {k : Nat} (h : k < hs.length) : (ledOf hs).getD k (0, 0) = ((hs.getD k hd0).1, Rat.divInt (hs.getD k hd0).2.1 (hs.getD k hd0).2.2) := by
  rw [getD_lt _ (by rw [led_len]; exact h), getD_lt _ h]; unfold ledOf; simp
theorem raw_append (a b : Led) : rawL (a ++ b) = rawL a ++ rawL b := by unfold rawL; simp
theorem raw_take (a : Led) (k : Nat) : rawL (a.take k) = (rawL a).take k := by unfold rawL; simp
theorem raw_drop (a : Led) (k : Nat) : rawL (a.drop k) = (rawL a).drop k := by unfold rawL; simp

def prevO (hs : List Hd) (k : Nat) : Int := if k = 0 then 0 else (hs.getD (k - 1) hd0).1
def okA (hs : List Hd) (k : Nat) : Bool := decide (prevO hs k < (hs.getD k hd0).1) && decide (1 ≤ (hs.getD k hd0).1) && decide ((hs.getD k hd0).1 ≤ 999)
def ascB (hs : List Hd) : Bool := (List.range hs.length).all (okA hs)
def okF (hs : List Hd) (k : Nat) : Bool := Wsh.vfB (hs.getD k hd0).2.1 (hs.getD k hd0).2.2 && decide ((hs.getD k hd0).2.1 ≠ 0)
/-- the sum of the first shares -/
def sumQ (hs : List Hd) (k : Nat) : Rat := totL ((ledOf hs).take k)
def okS (hs : List Hd) (k : Nat) : Bool := okF hs k && frB (sumQ hs (k + 1))
def allS (hs : List Hd) : Bool := (List.range hs.length).all (okS hs)
def allF (hs : List Hd) : Bool := (List.range hs.length).all (okF hs)
/-- a valid ledger -/
def vlR (hs : List Hd) : Bool := decide (hs.length ≤ 12) && ascB hs && allS hs && decide (sumQ hs hs.length = 1)
theorem rng_all (n : Nat) (f : Nat → Bool) : (List.range n).all f = true ↔ ∀ j, j < n → f j = true := by
  rw [List.all_eq_true]; simp
theorem rng_no {n k : Nat} {f : Nat → Bool} (h : k < n) (hk : f k = false) : (List.range n).all f = false := by
  rw [Bool.eq_false_iff]; intro c; rw [rng_all] at c; rw [c k h] at hk; cases hk
theorem rng_yes {n : Nat} {f : Nat → Bool} (h : ∀ j, j < n → f j = true) : (List.range n).all f = true := (rng_all n f).2 h
theorem rng_more {k : Nat} {f : Nat → Bool} (h : ∀ j, j < k → f j = true) (hk : f k = true) : ∀ j, j < k + 1 → f j = true := fun j hj => by
  by_cases e : j = k
  · subst e; exact hk
  · exact h j (by omega)

theorem okF_is {hs : List Hd} {k : Nat} (h : okF hs k = true) : Wsh.vfB (hs.getD k hd0).2.1 (hs.getD k hd0).2.2 = true ∧ (hs.getD k hd0).2.1 ≠ 0 := by
  unfold okF at h; simpa using h
theorem okF_no1 {hs : List Hd} {k : Nat} (h : Wsh.vfB (hs.getD k hd0).2.1 (hs.getD k hd0).2.2 = false) : okF hs k = false := by unfold okF; rw [h]; rfl
theorem okF_no2 {hs : List Hd} {k : Nat} (h : (hs.getD k hd0).2.1 = 0) : okF hs k = false := by unfold okF; rw [h]; simp
theorem okF_yes {hs : List Hd} {k : Nat} (h : Wsh.vfB (hs.getD k hd0).2.1 (hs.getD k hd0).2.2 = true) (h2 : (hs.getD k hd0).2.1 ≠ 0) : okF hs k = true := by unfold okF; rw [h]; simpa using h2
theorem okS_no {hs : List Hd} {k : Nat} (h : okF hs k = false) : okS hs k = false := by unfold okS; rw [h]; rfl
theorem okS_no2 {hs : List Hd} {k : Nat} (h : frB (sumQ hs (k + 1)) = false) : okS hs k = false := by unfold okS; rw [h]; simp
theorem okS_yes {hs : List Hd} {k : Nat} (h : okF hs k = true) (h2 : frB (sumQ hs (k + 1)) = true) : okS hs k = true := by unfold okS; rw [h, h2]; rfl
theorem okS_is {hs : List Hd} {k : Nat} (h : okS hs k = true) : okF hs k = true ∧ frB (sumQ hs (k + 1)) = true := by unfold okS at h; simpa using h
theorem sum_zero (hs : List Hd) : sumQ hs 0 = 0 := rfl
theorem sum_succ {hs : List Hd} {k : Nat} (h : k < hs.length) : sumQ hs (k + 1) = sumQ hs k + Rat.divInt (hs.getD k hd0).2.1 (hs.getD k hd0).2.2 := by
  unfold sumQ
  rw [take_snocD (ledOf hs) (by rw [led_len]; exact h) (0, 0), tot_append, led_get hs h]
  show _ + (Rat.divInt _ _ + 0) = _
  grind
/-- a sum as the program makes it -/
theorem sum_red {hs : List Hd} {k : Nat} (h : k < hs.length) (hv : Wsh.vfB (hs.getD k hd0).2.1 (hs.getD k hd0).2.2 = true) :
    Wsh.redB ((sumQ hs k).num * (hs.getD k hd0).2.2 + (hs.getD k hd0).2.1 * (sumQ hs k).den) ((sumQ hs k).den * (hs.getD k hd0).2.2) = frB (sumQ hs (k + 1)) ∧
    Wsh.rn ((sumQ hs k).num * (hs.getD k hd0).2.2 + (hs.getD k hd0).2.1 * (sumQ hs k).den) ((sumQ hs k).den * (hs.getD k hd0).2.2) = (sumQ hs (k + 1)).num ∧
    Wsh.rd ((sumQ hs k).num * (hs.getD k hd0).2.2 + (hs.getD k hd0).2.1 * (sumQ hs k).den) ((sumQ hs k).den * (hs.getD k hd0).2.2) = ((sumQ hs (k + 1)).den : Int) := by
  obtain ⟨a, b, _⟩ := vf_q hv
  have := add_red (sumQ hs k) (Rat.divInt (hs.getD k hd0).2.1 (hs.getD k hd0).2.2)
  rw [a, b, ← sum_succ h] at this
  exact this
theorem one_iff {q : Rat} : q = 1 ↔ q.num = (q.den : Int) := by
  constructor
  · rintro rfl; rfl
  · intro h
    have := q_mk q
    rw [h, Rat.divInt_self' (by have := den_pos q; omega)] at this
    exact this.symm
theorem asc_is {hs : List Hd} (h : ascB hs = true) : Asc (ledOf hs) ∧ ∀ x ∈ ledOf hs, 1 ≤ x.1 ∧ x.1 ≤ 999 := by
  unfold ascB at h
  rw [rng_all] at h
  have h1 : ∀ k, k < hs.length → prevO hs k < (hs.getD k hd0).1 ∧ 1 ≤ (hs.getD k hd0).1 ∧ (hs.getD k hd0).1 ≤ 999 := fun k hk => by
    have := h k hk; unfold okA at this; simp only [Bool.and_eq_true, decide_eq_true_eq] at this; exact ⟨this.1.1, this.1.2, this.2⟩
  have mono : ∀ n i, i + n + 1 < hs.length → (hs.getD i hd0).1 < (hs.getD (i + n + 1) hd0).1 := by
    intro n
    induction n with
    | zero =>
      intro i hi
      have := (h1 (i + 1) hi).1
      unfold prevO at this
      rw [if_neg (by omega)] at this
      exact this
    | succ n ih =>
      intro i hi
      have a := ih i (by omega)
      have := (h1 (i + (n + 1) + 1) hi).1
      unfold prevO at this
      rw [if_neg (by omega), show i + (n + 1) + 1 - 1 = i + n + 1 from by omega] at this
      omega
  refine ⟨?_, ?_⟩
  · unfold Asc
    rw [List.pairwise_iff_getElem]
    intro i j hi hj hij
    rw [led_len] at hi hj
    have a := mono (j - i - 1) i (by omega)
    rw [show i + (j - i - 1) + 1 = j from by omega] at a
    rw [← getD_lt (ledOf hs) (by rw [led_len]; exact hi) (0, 0), ← getD_lt (ledOf hs) (by rw [led_len]; exact hj) (0, 0), led_get hs hi, led_get hs hj]
    exact a
  · intro x hx
    obtain ⟨i, hi, rfl⟩ := List.getElem_of_mem hx
    rw [← getD_lt (ledOf hs) hi (0, 0), led_get hs (by rw [led_len] at hi; exact hi)]
    exact (h1 i (by rw [led_len] at hi; exact hi)).2
theorem frac_is {hs : List Hd} (h : allF hs = true) : rawL (ledOf hs) = hs ∧ Pos (ledOf hs) ∧ ∀ x ∈ ledOf hs, frB x.2 = true := by
  unfold allF at h
  rw [rng_all] at h
  have h1 : ∀ x ∈ hs, Wsh.vfB x.2.1 x.2.2 = true ∧ x.2.1 ≠ 0 := fun x hx => by
    obtain ⟨i, hi, rfl⟩ := List.getElem_of_mem hx
    have := okF_is (h i hi)
    rwa [getD_lt _ hi] at this
  refine ⟨?_, ?_, ?_⟩
  · unfold rawL ledOf
    rw [List.map_map]
    conv => rhs; rw [← List.map_id hs]
    refine List.map_congr_left fun x hx => ?_
    obtain ⟨a, b, _⟩ := vf_q (h1 x hx).1
    show (x.1, (Rat.divInt x.2.1 x.2.2).num, ((Rat.divInt x.2.1 x.2.2).den : Int)) = x
    rw [a, b]
  · intro x hx
    unfold ledOf at hx
    obtain ⟨y, hy, rfl⟩ := List.mem_map.1 hx
    obtain ⟨a, b, c⟩ := vf_q (h1 y hy).1
    have := frB_nonneg c
    have hn : Rat.divInt y.2.1 y.2.2 ≠ 0 := fun e => (h1 y hy).2 (by rw [← a]; exact (num_zero _).2 e)
    show 0 < Rat.divInt y.2.1 y.2.2
    grind
  · intro x hx
    unfold ledOf at hx
    obtain ⟨y, hy, rfl⟩ := List.mem_map.1 hx
    exact (vf_q (h1 y hy).1).2.2
theorem all_frac {hs : List Hd} (h : allS hs = true) : allF hs = true := by
  unfold allS at h; unfold allF; rw [rng_all] at h ⊢; exact fun j hj => (okS_is (h j hj)).1
theorem vlR_is {hs : List Hd} (h : vlR hs = true) : rawL (ledOf hs) = hs ∧ VL (ledOf hs) := by
  unfold vlR at h
  simp only [Bool.and_eq_true, decide_eq_true_eq] at h
  obtain ⟨⟨⟨h1, h2⟩, h3⟩, h4⟩ := h
  obtain ⟨f1, f2, f3⟩ := frac_is (all_frac h3)
  obtain ⟨a1, a2⟩ := asc_is h2
  refine ⟨f1, ⟨by rw [led_len]; exact h1, a2, f3, f2, a1, fun k hk => ?_, ?_⟩⟩
  · cases k with
    | zero => exact frB_zero
    | succ k =>
      unfold allS at h3; rw [rng_all] at h3
      rw [led_len] at hk
      exact (okS_is (h3 k hk)).2
  · have := h4
    unfold sumQ at this
    rwa [List.take_of_length_le (by rw [led_len]; exact Nat.le_refl _)] at this
theorem vlR_raw {L : Led} (h : VL L) : vlR (rawL L) = true := by
  have get : ∀ k, k < L.length → (rawL L).getD k hd0 = rawH L[k]! := fun k hk => by
    rw [raw_get L hk, getD_lt _ hk, List.getElem!_eq_getElem?_getD, List.getElem?_eq_getElem hk]; rfl
  unfold vlR
  simp only [Bool.and_eq_true, decide_eq_true_eq]
  refine ⟨⟨⟨by rw [raw_len]; exact h.len, ?_⟩, ?_⟩, ?_⟩
  · refine rng_yes fun k hk => ?_
    rw [raw_len] at hk
    unfold okA
    simp only [Bool.and_eq_true, decide_eq_true_eq]
    have o := h.own _ (List.getElem_mem hk)
    rw [raw_get L hk, getD_lt _ hk]
    refine ⟨⟨?_, o.1⟩, o.2⟩
    unfold prevO
    by_cases e : k = 0
    · rw [if_pos e]; exact Int.lt_of_lt_of_le (by decide) o.1
    · rw [if_neg e, raw_get L (by omega), getD_lt _ (by omega)]
      exact (List.pairwise_iff_getElem.1 h.asc) (k - 1) k (by omega) hk (by omega)
  · refine rng_yes fun k hk => ?_
    rw [raw_len] at hk
    refine okS_yes (okF_yes ?_ ?_) ?_
    · rw [raw_get L hk, getD_lt _ hk]; exact q_vf (h.fr _ (List.getElem_mem hk))
    · rw [raw_get L hk, getD_lt _ hk]
      have := h.pos _ (List.getElem_mem hk)
      intro c
      rw [(num_zero _).1 c] at this
      exact absurd this (by decide)
    · unfold sumQ; rw [led_raw]; exact h.sums _ (by omega)
  · unfold sumQ; rw [led_raw, raw_len, List.take_of_length_le (Nat.le_refl _)]; exact h.one
theorem vlR_vl (L : Led) : vlR (rawL L) = vlB L := by
  rw [Bool.eq_iff_iff, vl_iff]
  refine ⟨fun h => ?_, vlR_raw⟩
  have := (vlR_is h).2
  rwa [led_raw] at this
/-- the share of an owner as it lies in memory -/
def shR : List Hd → Int → Int × Int
  | [], _ => (0, 1)
  | h :: t, o => if h.1 = o then h.2 else shR t o
theorem shR_raw (L : Led) (o : Int) : shR (rawL L) o = ((shareL L o).num, ((shareL L o).den : Int)) := by
  induction L with
  | nil => rfl
  | cons h t ih =>
    show (if h.1 = o then (h.2.num, (h.2.den : Int)) else shR (rawL t) o) = _
    show _ = ((if h.1 = o then h.2 else shareL t o).num, ((if h.1 = o then h.2 else shareL t o).den : Int))
    by_cases e : h.1 = o
    · rw [if_pos e, if_pos e]
    · rw [if_neg e, if_neg e]; exact ih
theorem shR_at {hs : List Hd} {o : Int} {k : Nat} (hk : k < hs.length) (h : ∀ j, j < k → (hs.getD j hd0).1 ≠ o) (he : (hs.getD k hd0).1 = o) : shR hs o = (hs.getD k hd0).2 := by
  induction hs generalizing k with
  | nil => simp at hk
  | cons x t ih =>
    show (if x.1 = o then x.2 else shR t o) = _
    cases k with
    | zero => have he : x.1 = o := he
              rw [if_pos he]; rfl
    | succ k =>
      have h0 : x.1 ≠ o := h 0 (by omega)
      rw [if_neg h0]
      exact ih (by simpa using hk) (fun j hj => h (j + 1) (by omega)) he
theorem shR_none {hs : List Hd} {o : Int} (h : ∀ j, j < hs.length → (hs.getD j hd0).1 ≠ o) : shR hs o = (0, 1) := by
  induction hs with
  | nil => rfl
  | cons x t ih =>
    show (if x.1 = o then x.2 else shR t o) = _
    have h0 : x.1 ≠ o := h 0 (by simp)
    rw [if_neg h0]
    exact ih (fun j hj => h (j + 1) (by simpa using hj))
end Go.Proofs.Ythagafkjlecagab
namespace Go.Proofs.Ythagafkjlecagab
open Go.RowKit

theorem ret_int {k : IntKind} {a b : Int} (h : a = b) : Ending.returned (.int k a) = .returned (.int k b) := by rw [h]
theorem bcell {W w1 : World} (hb : Below W.heap.size W w1) : (∀ b o, b < W.heap.size → w1.cell? ⟨b, o, none⟩ = W.cell? ⟨b, o, none⟩) ∧ (∀ b o, b < W.heap.size → w1.frozen? ⟨b, o, none⟩ = W.frozen? ⟨b, o, none⟩) :=
  ⟨fun b o h => hb.cell (p := ⟨b, o, none⟩) h, fun b o h => hb.frozen (p := ⟨b, o, none⟩) h⟩

theorem bel_tr {w a b : World} (h1 : Below w.heap.size w a) (h2 : Below a.heap.size a b) : Below w.heap.size w b := h1.trans (h2.mono h1.size)
theorem ret_bool {a b : Bool} (h : a = b) : Ending.returned (.bool a) = .returned (.bool b) := by rw [h]
/-- spec.inRange -/
theorem inRange_yes (n l h : Int) (w : World) (a : l ≤ n) (b : n ≤ h) :
    Calls Try.prog 38 #[.int .i64 n, .int .i64 l, .int .i64 h] w fun e w' => e = .returned (.bool true) ∧ w = w' := by
  go_enter Try.func38, Try.ntmps38
  go_wp2
  go_ret
  exact ⟨rfl, rfl⟩
theorem inRange_no (n l h : Int) (w : World) (a : n < l ∨ h < n) :
    Calls Try.prog 38 #[.int .i64 n, .int .i64 l, .int .i64 h] w fun e w' => e = .returned (.bool false) ∧ w = w' := by
  by_cases b : n < l
  · go_enter Try.func38, Try.ntmps38
    go_wp2
    go_ret
    exact ⟨rfl, rfl⟩
  · have c : h < n := by omega
    have hd : decide (n ≤ h) = false := by simp; omega
    clear a
    go_enter Try.func38, Try.ntmps38
    go_wp2
    go_ret
    exact ⟨rfl, rfl⟩

/-- what is told of a slice of integers that came in -/
def IsRow (k : IntKind) (w : World) (a : Option Addr) (len cap : Nat) (zs : List Int) : Prop :=
  (a = none ∧ len = 0 ∧ cap = 0 ∧ zs = []) ∨
  ∃ x, a = some x ∧ len ≤ cap ∧ cap ≤ maxLen ∧ zs.length = cap ∧ (∀ i, i < zs.length → w.cell? (x.add i) = some (.int k (zs.getD i 0))) ∧ ∀ n ∈ zs, (Lit.int k n).wf = true

end Go.Proofs.Ythagafkjlecagab
namespace Go.Proofs.Ythagafkjlecagab
open Go.RowKit

/-- the numbers zs, read through a slice at address a -/
def IsInts (w : World) (a : Option Addr) (zs : List Int) : Prop := zs = [] ∨ ∃ g o, a = some ⟨g, o, none⟩ ∧ ∀ i, i < zs.length → w.cell? ⟨g, o + i, none⟩ = some (.int .i64 (zs.getD i 0))

theorem take_sum (zs : List Int) (k : Nat) (h : k < zs.length) : (zs.take (k + 1)).sum = (zs.take k).sum + zs.getD k 0 := by
  rw [List.take_succ_eq_append_getElem h, List.sum_append, List.getD_eq_getElem?_getD, List.getElem?_eq_getElem h]
  simp
theorem getD_mem {zs : List Int} {k : Nat} (h : k < zs.length) : zs.getD k 0 ∈ zs := by
  rw [List.getD_eq_getElem?_getD, List.getElem?_eq_getElem h]; simp
theorem sum_bd (zs : List Int) (h : ∀ z ∈ zs, -1000000 ≤ z ∧ z ≤ 1000000) : ∀ k, k ≤ zs.length → -1000000 * (k : Int) ≤ (zs.take k).sum ∧ (zs.take k).sum ≤ 1000000 * (k : Int) := by
  intro k
  induction k with
  | zero => intro _; simp
  | succ k ih =>
    intro hk
    have h1 := ih (by omega)
    have h2 := h _ (getD_mem (k := k) (by omega))
    rw [take_sum zs k (by omega)]
    omega

set_option maxHeartbeats 400000 in
/-- spec.total -/
theorem stotal (a : Option Addr) (cap : Nat) (zs : List Int) (w : World) (h : IsInts w a zs) (hn : zs.length ≤ 1048576) (hz : ∀ z ∈ zs, -1000000 ≤ z ∧ z ≤ 1000000) :
    Calls Try.prog 106 #[.slice a zs.length cap] w fun e w' => e = .returned (.int .i64 zs.sum) ∧ w = w' := by
  rcases h with rfl | ⟨g, o, rfl, hc⟩
  · go_enter Try.func106, Try.ntmps106
    go_wp2
    go_rounds 1
    go_ret
    exact ⟨rfl, rfl⟩
  · have HB := Lib.hid (sum_bd zs hz)
    have HC := Lib.hid hc
    have HZ := Lib.hid hz
    clear hc hz
    go_enter Try.func106, Try.ntmps106
    go_wp2
    go_loop [3, 4] (fun s i => ∃ k : Nat, k ≤ zs.length ∧ i = .int .i64 k ∧ s = .int .i64 (zs.take k).sum) (fun _ i => zs.length - (intOf i).toNat)
    case atStart => exact ⟨0, Nat.zero_le _, rfl, rfl⟩
    case round =>
      obtain ⟨k, hk, rfl, rfl⟩ := hrel
      obtain ⟨b0, b1⟩ := HB.out k hk
      by_cases hlt : k < zs.length
      · have hc := HC.out k hlt
        have ht := take_sum zs k hlt
        obtain ⟨z0, z1⟩ := HZ.out _ (getD_mem hlt)
        generalize zs.getD k 0 = z at hc ht z0 z1
        have HT := Lib.hid ht
        clear ht
        go_wp2
        go_round
        case rel => exact ⟨k + 1, by omega, by go_num, by rw [HT.out]⟩
        case measure => simp [intOf]; omega
      · go_wp2
        go_ret
        exact ⟨ret_int (by rw [List.take_of_length_le (by omega)]), rfl⟩
set_option maxHeartbeats 400000 in
/-- impl.sumOf -/
theorem isum (a : Option Addr) (cap : Nat) (zs : List Int) (w : World) (h : IsInts w a zs) (hn : zs.length ≤ 1048576) (hz : ∀ z ∈ zs, -1000000 ≤ z ∧ z ≤ 1000000) :
    Calls Try.prog 101 #[.slice a zs.length cap] w fun e w' => e = .returned (.int .i64 zs.sum) ∧ w = w' := by
  rcases h with rfl | ⟨g, o, rfl, hc⟩
  · go_enter Try.func101, Try.ntmps101
    go_wp2
    go_rounds 1
    go_ret
    exact ⟨rfl, rfl⟩
  · have HB := Lib.hid (sum_bd zs hz)
    have HC := Lib.hid hc
    have HZ := Lib.hid hz
    clear hc hz
    go_enter Try.func101, Try.ntmps101
    go_wp2
    go_loop [3, 8] (fun s i => ∃ k : Nat, k ≤ zs.length ∧ i = .int .i64 k ∧ s = .int .i64 (zs.take k).sum) (fun _ i => zs.length - (intOf i).toNat)
    case atStart => exact ⟨0, Nat.zero_le _, rfl, rfl⟩
    case round =>
      obtain ⟨k, hk, rfl, rfl⟩ := hrel
      obtain ⟨b0, b1⟩ := HB.out k hk
      by_cases hlt : k < zs.length
      · have hc := HC.out k hlt
        have ht := take_sum zs k hlt
        obtain ⟨z0, z1⟩ := HZ.out _ (getD_mem hlt)
        generalize zs.getD k 0 = z at hc ht z0 z1
        have HT := Lib.hid ht
        clear ht
        go_wp2
        go_round
        case rel => exact ⟨k + 1, by omega, by go_num, by rw [HT.out]⟩
        case measure => simp [intOf]; omega
      · go_wp2
        go_ret
        exact ⟨ret_int (by rw [List.take_of_length_le (by omega)]), rfl⟩
/-- every number is in 0..most -/
def allB (zs : List Int) (most : Int) : Bool := zs.all fun z => decide (0 ≤ z) && decide (z ≤ most)
theorem allB_iff (zs : List Int) (most : Int) : allB zs most = true ↔ ∀ z ∈ zs, 0 ≤ z ∧ z ≤ most := by unfold allB; simp
theorem allB_no {zs : List Int} {most : Int} {k : Nat} (h : k < zs.length) (hz : zs.getD k 0 < 0 ∨ most < zs.getD k 0) : allB zs most = false := by
  rw [Bool.eq_false_iff]; intro h2; rw [allB_iff] at h2; have := h2 _ (getD_mem h); omega
theorem allB_yes {zs : List Int} {most : Int} (h : ∀ i, i < zs.length → 0 ≤ zs.getD i 0 ∧ zs.getD i 0 ≤ most) : allB zs most = true := by
  rw [allB_iff]; intro z hz
  obtain ⟨i, hi, rfl⟩ := List.getElem_of_mem hz
  have := h i hi
  rwa [List.getD_eq_getElem?_getD, List.getElem?_eq_getElem hi, Option.getD_some] at this

/-- impl.isWithin -/
theorem iwithin_yes (n m : Int) (w : World) (a : 0 ≤ n) (b : n ≤ m) :
    Calls Try.prog 112 #[.int .i64 n, .int .i64 m] w fun e w' => e = .returned (.bool true) ∧ w = w' := by
  go_enter Try.func112, Try.ntmps112
  go_wp2
  go_ret
  exact ⟨rfl, rfl⟩
theorem iwithin_no (n m : Int) (w : World) (a : n < 0 ∨ m < n) :
    Calls Try.prog 112 #[.int .i64 n, .int .i64 m] w fun e w' => e = .returned (.bool false) ∧ w = w' := by
  by_cases b : n < 0
  · go_enter Try.func112, Try.ntmps112
    go_wp2
    go_ret
    exact ⟨rfl, rfl⟩
  · have c : m < n := by omega
    have hd : decide (n ≤ m) = false := by simp; omega
    clear a
    go_enter Try.func112, Try.ntmps112
    go_wp2
    go_ret
    exact ⟨rfl, rfl⟩
set_option maxHeartbeats 400000 in
/-- impl.allWithin -/
theorem iall (a : Option Addr) (cap : Nat) (zs : List Int) (most : Int) (w : World) (h : IsInts w a zs) (hn : zs.length ≤ 1048576) :
    Calls Try.prog 100 #[.slice a zs.length cap, .int .i64 most] w fun e w' => e = .returned (.bool (allB zs most)) ∧ w = w' := by
  rcases h with rfl | ⟨g, o, rfl, hc⟩
  · go_enter Try.func100, Try.ntmps100
    go_wp2
    go_rounds 1
    go_ret
    exact ⟨rfl, rfl⟩
  · have HC := Lib.hid hc
    clear hc
    go_enter Try.func100, Try.ntmps100
    go_wp2
    go_loop [9] (fun i => ∃ k : Nat, k ≤ zs.length ∧ i = .int .i64 k ∧ Hid (∀ j, j < k → 0 ≤ zs.getD j 0 ∧ zs.getD j 0 ≤ most)) (fun i => zs.length - (intOf i).toNat)
    case atStart => exact ⟨0, Nat.zero_le _, rfl, fun j hj => by omega⟩
    case round =>
      obtain ⟨k, hk, rfl, HA⟩ := hrel
      by_cases hlt : k < zs.length
      · have hc := HC.out k hlt
        have hno := allB_no (most := most) hlt
        have hyes : 0 ≤ zs.getD k 0 → zs.getD k 0 ≤ most → ∀ j, j < k + 1 → 0 ≤ zs.getD j 0 ∧ zs.getD j 0 ≤ most := fun h0 h1 j hj => by
          by_cases hjk : j = k
          · subst hjk; exact ⟨h0, h1⟩
          · exact HA.out j (by omega)
        generalize zs.getD k 0 = z at hc hno hyes
        have HN := Lib.hid hno
        have HY := Lib.hid hyes
        clear hno hyes
        by_cases zb : z < 0 ∨ most < z
        · go_wp2_with fail
          refine (iwithin_no z most _ zb).mono ?_
          rintro e w' ⟨rfl, rfl⟩
          go_wp2_with fail
          go_ret
          exact ⟨ret_bool (HN.out zb).symm, rfl⟩
        · go_wp2_with fail
          refine (iwithin_yes z most _ (by omega) (by omega)).mono ?_
          rintro e w' ⟨rfl, rfl⟩
          go_wp2_with fail
          go_round
          case rel => exact ⟨k + 1, by omega, by go_num, HY.out (by omega) (by omega)⟩
          case measure => simp [intOf]; omega
      · go_wp2
        go_ret
        exact ⟨ret_bool (allB_yes (fun j hj => HA.out j (by omega))).symm, rfl⟩
end Go.Proofs.Ythagafkjlecagab
namespace Go.Proofs.Ythagafkjlecagab
open Go.RowKit

theorem below_drewN {B : Nat} {a w : World} (h : Below B a w) (n : Nat) : Below B a (w.drewN n) := ⟨h.os, h.tape, h.output, h.size, h.block⟩
theorem infoInt : (Try.prog.info? 3).map (fun i => (i.zero, i.size, i.bytes)) = some (some (.int .i64 0), 1, 8) := by kernel_rfl

/-- block g is the row of the numbers zs -/
def Row (w : World) (g : Nat) (zs : List Int) : Prop := w.rowIs g 3 zs.length (fun i => .int .i64 (zs.getD i 0))
theorem row_ints {w : World} {g : Nat} {zs : List Int} (h : Row w g zs) : IsInts w (some ⟨g, 0, none⟩) zs := .inr ⟨g, 0, rfl, fun i hi => by
  have := World.rowIs.cell h hi
  simpa using this⟩
theorem row_keep {w w' : World} {g : Nat} {zs : List Int} (h : Row w g zs) (hB : Below w.heap.size w w') : Row w' g zs := World.rowIs.of_block h (hB.block g (World.rowIs.lt h))
theorem ints_below {w w' : World} {a : Option Addr} {zs : List Int} (h : IsInts w a zs) (hB : Below w.heap.size w w') : IsInts w' a zs := by
  rcases h with h | ⟨g, o, ha, hc⟩
  · exact .inl h
  · exact .inr ⟨g, o, ha, fun i hi => (hB.cell (p := ⟨g, o + i, none⟩) (World.block_lt_of_cell? w _ (hc i hi))).trans (hc i hi)⟩

/-- what toIntS leaves -/
def Copied (w : World) (zs : List Int) (e : Ending) (w' : World) : Prop := ∃ g : Nat, e = .returned (.slice (some ⟨g, 0, none⟩) zs.length zs.length) ∧ w.heap.size ≤ g ∧ Row w' g zs ∧ Below w.heap.size w w'

/-- a slice that came in is read as its numbers -/
theorem row_is {w : World} {a : Option Addr} {len cap : Nat} {z : List Int} (h : IsRow .i64 w a len cap z) : ∃ zs : List Int, zs.length = len ∧ IsInts w a zs := by
  rcases h with ⟨rfl, rfl, rfl, rfl⟩ | ⟨x, rfl, hl, hm, hz, hcell, hwz⟩
  · exact ⟨[], rfl, .inl rfl⟩
  · refine ⟨z.take len, by rw [List.length_take]; omega, ?_⟩
    by_cases h0 : len = 0
    · subst h0; exact .inl (by simp)
    · obtain ⟨b, off, spot⟩ := x
      have hc := hcell 0 (by omega)
      have hspot : spot = none := by simpa [Addr.add] using World.cell?_spot hc
      subst hspot
      refine .inr ⟨b, off, rfl, fun i hi => ?_⟩
      have hi' : i < len := by rw [List.length_take] at hi; omega
      have hci := hcell i (by omega)
      have e : (z.take len).getD i 0 = z.getD i 0 := by
        rw [List.getD_eq_getElem?_getD, List.getD_eq_getElem?_getD, List.getElem?_take_of_lt hi']
      rw [e]
      by_cases hi0 : i = 0
      · subst hi0; simpa [Addr.add] using hci
      · simpa [Addr.add, hi0] using hci
end Go.Proofs.Ythagafkjlecagab
namespace Go.Proofs.Ythagafkjlecagab
open Go.RowKit


/-- spec.gcd -/
theorem sgcd (a b : Int) (w : World) (ha : 0 ≤ a) (ha' : a ≤ 1000000000) (hb : 0 ≤ b) (hb' : b ≤ 1000000000) :
    Calls Try.prog 105 #[.int .i64 a, .int .i64 b] w fun e w' => e = .returned (.int .i64 (Int.gcd a b)) ∧ w = w' := by
  go_enter Try.func105, Try.ntmps105
  go_wp2
  go_loop [0, 1, 5] (fun x y z => ∃ n m : Int, 0 ≤ n ∧ n ≤ 1000000000 ∧ 0 ≤ m ∧ m ≤ 1000000000 ∧ x = .int .i64 n ∧ y = .int .i64 m ∧ Hid (Int.gcd n m = Int.gcd a b)) (fun _ y _ => (intOf y).toNat)
  case atStart => exact ⟨a, b, ha, ha', hb, hb', rfl, rfl, rfl⟩
  case round =>
    obtain ⟨n, m, hn, hn', hm, hm', rfl, rfl, hg⟩ := hrel
    by_cases h0 : m = 0
    · have hz : (m != 0) = false := by simp [h0]
      have H := Lib.hid h0
      clear h0
      go_wp2
      go_ret
      have h1 := H.out
      exact ⟨ret_int (by have := hg.out; rw [h1] at this; simp at this; omega), rfl⟩
    · have hz : (m != 0) = true := by simp [h0]
      have hm1 : 1 ≤ m := by omega
      have hr0 := Int.emod_nonneg n h0
      have hr1 := Int.emod_lt_of_pos n (show 0 < m by omega)
      clear h0
      go_wp2
      go_round
      case rel => exact ⟨m, n % m, by omega, by omega, hr0, by omega, rfl, rfl, by rw [Wsh.gcd_step n m hn (by omega)]; exact hg.out⟩
      case measure => simp [intOf]; omega

/-- impl.commonDivisor -/
theorem igcd (a b : Int) (w : World) (ha : 0 ≤ a) (ha' : a ≤ 1000000000) (hb : 0 ≤ b) (hb' : b ≤ 1000000000) :
    Calls Try.prog 107 #[.int .i64 a, .int .i64 b] w fun e w' => e = .returned (.int .i64 (Int.gcd a b)) ∧ w = w' := by
  go_enter Try.func107, Try.ntmps107
  go_wp2
  go_loop [0, 1] (fun x y => ∃ n m : Int, 0 ≤ n ∧ n ≤ 1000000000 ∧ 0 ≤ m ∧ m ≤ 1000000000 ∧ x = .int .i64 n ∧ y = .int .i64 m ∧ Hid (Int.gcd n m = Int.gcd a b)) (fun x _ => (intOf x).toNat)
  case atStart => exact ⟨a, b, ha, ha', hb, hb', rfl, rfl, rfl⟩
  case round =>
    obtain ⟨n, m, hn, hn', hm, hm', rfl, rfl, hg⟩ := hrel
    by_cases h0 : 0 < n
    · have hr0 := Int.emod_nonneg m (show n ≠ 0 by omega)
      have hr1 := Int.emod_lt_of_pos m h0
      go_wp2
      go_round
      case rel => exact ⟨m % n, n, hr0, by omega, by omega, by omega, rfl, rfl, by rw [Int.gcd_comm, Wsh.gcd_step m n hm h0, Int.gcd_comm]; exact hg.out⟩
      case measure => simp [intOf]; omega
    · go_wp2
      go_ret
      exact ⟨ret_int (by have h1 : n = 0 := by omega
                         have := hg.out; rw [h1] at this; simp at this; omega), rfl⟩
end Go.Proofs.Ythagafkjlecagab
namespace Go.Proofs.Ythagafkjlecagab
open Go.RowKit

theorem vf_no {n d : Int} (h : ¬ (1 ≤ d ∧ d ≤ 10000 ∧ 0 ≤ n ∧ n ≤ d)) : Wsh.vfB n d = false := by
  rw [Bool.eq_false_iff]; intro k; rw [Wsh.vfB_iff] at k; exact h ⟨k.1, k.2.1, k.2.2.1, k.2.2.2.1⟩
theorem vf_gcd {n d : Int} (h : 1 ≤ d ∧ d ≤ 10000 ∧ 0 ≤ n ∧ n ≤ d) : ((Int.gcd n d : Int) == 1) = Wsh.vfB n d := by
  rw [Bool.eq_iff_iff, Wsh.vfB_iff]; simp; omega

/-- impl.ValidFrac -/
theorem iValid (n d : Int) (w : World) :
    Calls Try.prog 90 #[.agg #[.int .i64 n, .int .i64 d]] w fun e w' => e = .returned (.bool (Wsh.vfB n d)) ∧ Below w.heap.size w w' := by
  by_cases h1 : d < 1
  · go_enter Try.func90, Try.ntmps90
    go_wp2
    go_ret
    exact ⟨ret_bool (vf_no (by omega)).symm, by go_grown⟩
  · by_cases h2 : 10000 < d
    · go_enter Try.func90, Try.ntmps90
      go_wp2
      go_ret
      exact ⟨ret_bool (vf_no (by omega)).symm, by go_grown⟩
    · by_cases h3 : n < 0
      · go_enter Try.func90, Try.ntmps90
        go_wp2
        go_ret
        exact ⟨ret_bool (vf_no (by omega)).symm, by go_grown⟩
      · by_cases h4 : d < n
        · go_enter Try.func90, Try.ntmps90
          go_wp2
          go_ret
          exact ⟨ret_bool (vf_no (by omega)).symm, by go_grown⟩
        · have hv := vf_gcd (n := n) (d := d) (by omega)
          have HV := Lib.hid hv
          clear hv
          go_enter Try.func90, Try.ntmps90
          go_wp2_with fail
          refine (igcd n d _ (by omega) (by omega) (by omega) (by omega)).mono ?_
          rintro e w' ⟨rfl, rfl⟩
          go_wp2_with fail
          go_ret
          exact ⟨ret_bool HV.out, by go_grown⟩

/-- spec.validFrac -/
theorem svalid (n d : Int) (w : World) :
    Calls Try.prog 73 #[.agg #[.int .i64 n, .int .i64 d]] w fun e w' => e = .returned (.bool (Wsh.vfB n d)) ∧ Below w.heap.size w w' := by
  by_cases h1 : d < 1 ∨ 10000 < d
  · go_enter Try.func73, Try.ntmps73
    go_wp2_with fail
    refine (inRange_no d 1 10000 _ h1).mono ?_
    rintro e w' ⟨rfl, rfl⟩
    go_wp2_with fail
    go_ret
    exact ⟨ret_bool (vf_no (by omega)).symm, by go_grown⟩
  · by_cases h2 : n < 0 ∨ d < n
    · go_enter Try.func73, Try.ntmps73
      go_wp2_with fail
      refine (inRange_yes d 1 10000 _ (by omega) (by omega)).mono ?_
      rintro e w' ⟨rfl, rfl⟩
      go_wp2_with fail
      refine (inRange_no n 0 d _ h2).mono ?_
      rintro e w' ⟨rfl, rfl⟩
      go_wp2_with fail
      go_ret
      exact ⟨ret_bool (vf_no (by omega)).symm, by go_grown⟩
    · have hv := vf_gcd (n := n) (d := d) (by omega)
      have HV := Lib.hid hv
      clear hv
      go_enter Try.func73, Try.ntmps73
      go_wp2_with fail
      refine (inRange_yes d 1 10000 _ (by omega) (by omega)).mono ?_
      rintro e w' ⟨rfl, rfl⟩
      go_wp2_with fail
      refine (inRange_yes n 0 d _ (by omega) (by omega)).mono ?_
      rintro e w' ⟨rfl, rfl⟩
      go_wp2_with fail
      refine (sgcd n d _ (by omega) (by omega) (by omega) (by omega)).mono ?_
      rintro e w' ⟨rfl, rfl⟩
      go_wp2_with fail
      go_ret
      exact ⟨ret_bool HV.out, by go_grown⟩
end Go.Proofs.Ythagafkjlecagab
namespace Go.Proofs.Ythagafkjlecagab
open Go.RowKit

/-- a fraction and whether there is one, as returned -/
abbrev frV (b : Bool) (x y : Int) : Value := .tuple #[.agg #[.int .i64 (Wsh.qn b x), .int .i64 (Wsh.qn b y)], .bool b]

theorem ret_frV {b : Bool} {n d x y x' y' : Int} (hb : Wsh.redB n d = b) (hx : x' = Wsh.qn b x) (hy : y' = Wsh.qn b y) :
    Ending.returned (.tuple #[.agg #[.int .i64 x', .int .i64 y'], .bool b]) = .returned (frV (Wsh.redB n d) x y) := by rw [hb, hx, hy]

theorem swal {n d : Int} {b : Bool} (h : Wsh.redB n d = b) (hn : 0 ≤ n) (hd : 0 < d) : Wsh.vfB (n / (Int.gcd n d : Int)) (d / (Int.gcd n d : Int)) = b := by
  have := Wsh.vfB_red n d hn hd
  unfold Wsh.rn Wsh.rd at this
  rw [this]; exact h

set_option maxHeartbeats 400000 in
/-- spec.reduce -/
theorem sred (n d : Int) (w : World) (hn : 0 ≤ n) (hn' : n ≤ 1000000000) (hd : 1 ≤ d) (hd' : d ≤ 100000000) :
    Calls Try.prog 89 #[.int .i64 n, .int .i64 d] w fun e w' => e = .returned (frV (Wsh.redB n d) (Wsh.rn n d) (Wsh.rd n d)) ∧ Below w.heap.size w w' := by
  have hg := Wsh.gcd_pos n d (by omega)
  obtain ⟨b0, b1⟩ := Wsh.rn_le n d (by omega)
  have b2 := Wsh.rd_le n d (by omega)
  have b3 := Wsh.rd_pos n d (by omega)
  unfold Wsh.rn at b0 b1
  unfold Wsh.rd at b2 b3
  have hg0 : ((Int.gcd n d : Int) == 0) = false := by simp; omega
  cases hr : Wsh.redB n d with
  | false =>
    have hv := swal hr hn (by omega)
    clear hr
    go_enter Try.func89, Try.ntmps89
    go_wp2_with fail
    refine (sgcd n d _ (by omega) (by omega) (by omega) (by omega)).mono ?_
    rintro e w' ⟨rfl, rfl⟩
    go_wp2_with fail
    go_region
    all_goals
      go_wp2_with fail
      refine (svalid _ _ _).mono ?_
      rintro e w1 ⟨rfl, hb⟩
      obtain ⟨hc, hf⟩ := bcell hb
      have hB : Below w.heap.size w w1 := bel_tr (by go_grown) hb
      have c0 := hc w.heap.size 0 (by simp; omega)
      have c1 := hc w.heap.size 1 (by simp; omega)
      have c2 := hc (w.heap.size + 1) 0 (by simp)
      have c3 := hc (w.heap.size + 1) 1 (by simp)
      have f0 := hf w.heap.size 0 (by simp; omega)
      have f1 := hf w.heap.size 1 (by simp; omega)
      simp [go_sem] at c0 c1 c2 c3 f0 f1
      clear hc hf hb
      go_wp2_with fail
      refine bodyPost_ret (v := .tuple #[.agg #[.int .i64 0, .int .i64 0], .bool false]) (by simp [results, Try.results89, go_sem, c0, c1]) rfl ⟨rfl, by go_grown⟩
  | true =>
    have hv := swal hr hn (by omega)
    clear hr
    go_enter Try.func89, Try.ntmps89
    go_wp2_with fail
    refine (sgcd n d _ (by omega) (by omega) (by omega) (by omega)).mono ?_
    rintro e w' ⟨rfl, rfl⟩
    go_wp2_with fail
    go_region
    all_goals
      go_wp2_with fail
      refine (svalid _ _ _).mono ?_
      rintro e w1 ⟨rfl, hb⟩
      obtain ⟨hc, hf⟩ := bcell hb
      have hB : Below w.heap.size w w1 := bel_tr (by go_grown) hb
      have c0 := hc w.heap.size 0 (by simp; omega)
      have c1 := hc w.heap.size 1 (by simp; omega)
      have c2 := hc (w.heap.size + 1) 0 (by simp)
      have c3 := hc (w.heap.size + 1) 1 (by simp)
      have f0 := hf w.heap.size 0 (by simp; omega)
      have f1 := hf w.heap.size 1 (by simp; omega)
      simp [go_sem] at c0 c1 c2 c3 f0 f1
      clear hc hf hb
      go_wp2_with fail
      refine bodyPost_ret (v := .tuple #[.agg #[.int .i64 (n / (Int.gcd n d : Int)), .int .i64 (d / (Int.gcd n d : Int))], .bool true]) (by simp [results, Try.results89, go_sem, c0, c1]) rfl ⟨rfl, by go_grown⟩
end Go.Proofs.Ythagafkjlecagab
namespace Go.Proofs.Ythagafkjlecagab
open Go.RowKit

set_option maxHeartbeats 400000 in
/-- impl.reduced -/
theorem ired (n d : Int) (w : World) (hd : 1 ≤ d) (hd' : d ≤ 100000000) :
    Calls Try.prog 91 #[.int .i64 n, .int .i64 d] w fun e w' => e = .returned (frV (Wsh.redB n d) (Wsh.rn n d) (Wsh.rd n d)) ∧ Below w.heap.size w w' := by
  by_cases h1 : n < 0
  · go_enter Try.func91, Try.ntmps91
    go_wp2
    go_returns
    exact ⟨ret_frV (Wsh.redB_no (by omega)) rfl rfl, by go_grown⟩
  · by_cases h2 : d < n
    · go_enter Try.func91, Try.ntmps91
      go_wp2
      go_returns
      exact ⟨ret_frV (Wsh.redB_no (by omega)) rfl rfl, by go_grown⟩
    · have hg := Wsh.gcd_pos n d (by omega)
      have hq := Wsh.redB_den (n := n) (d := d) (by omega)
      have HQ := Lib.hid hq
      clear hq
      obtain ⟨b0, b1⟩ := Wsh.rn_bd n d (by omega) (by omega) (by omega)
      have b2 := Wsh.rd_le n d (by omega)
      have b3 := Wsh.rd_pos n d (by omega)
      unfold Wsh.rn at b0 b1
      unfold Wsh.rd at b1 b2 b3
      have hg0 : ((Int.gcd n d : Int) == 0) = false := by simp; omega
      by_cases h3 : 10000 < d / (Int.gcd n d : Int)
      · go_enter Try.func91, Try.ntmps91
        go_wp2_with fail
        refine (igcd n d _ (by omega) (by omega) (by omega) (by omega)).mono ?_
        rintro e w' ⟨rfl, rfl⟩
        go_wp2_with fail
        go_region
        all_goals
          go_wp2
          go_returns
          exact ⟨ret_frV (by rw [HQ.out]; unfold Wsh.rd; simp; omega) rfl rfl, by go_grown⟩
      · go_enter Try.func91, Try.ntmps91
        go_wp2_with fail
        refine (igcd n d _ (by omega) (by omega) (by omega) (by omega)).mono ?_
        rintro e w' ⟨rfl, rfl⟩
        go_wp2_with fail
        go_region
        all_goals
          go_wp2
          go_returns
          exact ⟨ret_frV (by rw [HQ.out]; unfold Wsh.rd; simp; omega) rfl rfl, by go_grown⟩

end Go.Proofs.Ythagafkjlecagab
namespace Go.Proofs.Ythagafkjlecagab
open Go.RowKit

theorem fr_no1 {va vb r : Bool} {x y : Int} (h : va = false) : Ending.returned (.tuple #[.agg #[.int .i64 0, .int .i64 0], .bool false]) = .returned (frV (va && vb && r) x y) := by rw [h]; rfl
theorem fr_no2 {va vb r : Bool} {x y : Int} (h : vb = false) : Ending.returned (.tuple #[.agg #[.int .i64 0, .int .i64 0], .bool false]) = .returned (frV (va && vb && r) x y) := by rw [h]; cases va <;> rfl
theorem fr_yes {va vb r : Bool} {x y : Int} (ha : va = true) (hb : vb = true) : Ending.returned (frV r x y) = .returned (frV (va && vb && r) x y) := by rw [ha, hb]; rfl
theorem bounds {an ad bn bd : Int} (ha : Wsh.vfB an ad = true) (hb : Wsh.vfB bn bd = true) :
    (0 ≤ an * bd ∧ an * bd ≤ 100000000) ∧ (0 ≤ bn * ad ∧ bn * ad ≤ 100000000) ∧ (1 ≤ ad * bd ∧ ad * bd ≤ 100000000) ∧ (0 ≤ an * bn ∧ an * bn ≤ 100000000) := by
  have ka := (Wsh.vfB_iff _ _).1 ha
  have kb := (Wsh.vfB_iff _ _).1 hb
  exact ⟨Wsh.mul_bd (by omega) (by omega) (by omega) (by omega), Wsh.mul_bd (by omega) (by omega) (by omega) (by omega), ⟨Wsh.mul_pos1 (by omega) (by omega), (Wsh.mul_bd (by omega) (by omega) (by omega) (by omega)).2⟩, Wsh.mul_bd (by omega) (by omega) (by omega) (by omega)⟩

set_option maxHeartbeats 1000000 in
/-- impl.AddFrac -/
theorem iAdd (an ad bn bd : Int) (w : World) :
    Calls Try.prog 54 #[.agg #[.int .i64 an, .int .i64 ad], .agg #[.int .i64 bn, .int .i64 bd]] w fun e w' => e = .returned (frV (Wsh.vfB an ad && Wsh.vfB bn bd && Wsh.redB (an * bd + bn * ad) (ad * bd)) (Wsh.rn (an * bd + bn * ad) (ad * bd)) (Wsh.rd (an * bd + bn * ad) (ad * bd))) ∧ Below w.heap.size w w' := by
  cases ha : Wsh.vfB an ad with
  | false =>
    go_enter Try.func54, Try.ntmps54
    go_wp2_with fail
    refine (iValid an ad _).mono ?_
    rintro e w1 ⟨rfl, hb⟩
    have hB : Below w.heap.size w w1 := bel_tr (by go_grown) hb
    obtain ⟨hc, hf⟩ := bcell hb
    have c0 := hc (w.heap.size) 0 (by simp <;> omega)
    have c1 := hc (w.heap.size) 1 (by simp <;> omega)
    have c2 := hc (w.heap.size + 1) 0 (by simp <;> omega)
    have c3 := hc (w.heap.size + 1) 1 (by simp <;> omega)
    have c4 := hc (w.heap.size + 2) 0 (by simp <;> omega)
    have c5 := hc (w.heap.size + 2) 1 (by simp <;> omega)
    have f0 := hf (w.heap.size + 2) 0 (by simp <;> omega)
    have f1 := hf (w.heap.size + 2) 1 (by simp <;> omega)
    simp [go_sem] at c0 c1 c2 c3 c4 c5 f0 f1
    clear hc hf hb
    go_wp2_with fail
    refine bodyPost_ret (v := .tuple #[.agg #[.int .i64 0, .int .i64 0], .bool false]) (by simp [results, Try.results54, go_sem, c4, c5]) rfl ⟨fr_no1 rfl, by go_grown⟩
  | true =>
    cases hb0 : Wsh.vfB bn bd with
    | false =>
      go_enter Try.func54, Try.ntmps54
      go_wp2_with fail
      refine (iValid an ad _).mono ?_
      rintro e w1 ⟨rfl, hb⟩
      have hB : Below w.heap.size w w1 := bel_tr (by go_grown) hb
      have hz := hb.size
      simp at hz
      obtain ⟨hc, hf⟩ := bcell hb
      have c0 := hc (w.heap.size) 0 (by simp <;> omega)
      have c1 := hc (w.heap.size) 1 (by simp <;> omega)
      have c2 := hc (w.heap.size + 1) 0 (by simp <;> omega)
      have c3 := hc (w.heap.size + 1) 1 (by simp <;> omega)
      have c4 := hc (w.heap.size + 2) 0 (by simp <;> omega)
      have c5 := hc (w.heap.size + 2) 1 (by simp <;> omega)
      have f0 := hf (w.heap.size + 2) 0 (by simp <;> omega)
      have f1 := hf (w.heap.size + 2) 1 (by simp <;> omega)
      simp [go_sem] at c0 c1 c2 c3 c4 c5 f0 f1
      clear hc hf hb
      go_wp2_with fail
      refine (iValid bn bd _).mono ?_
      rintro e w2 ⟨rfl, hb⟩
      have hB2 : Below w.heap.size w w2 := bel_tr hB hb
      obtain ⟨hc, hf⟩ := bcell hb
      have d0 := (hc (w.heap.size) 0 (by omega)).trans c0
      have d1 := (hc (w.heap.size) 1 (by omega)).trans c1
      have d2 := (hc (w.heap.size + 1) 0 (by omega)).trans c2
      have d3 := (hc (w.heap.size + 1) 1 (by omega)).trans c3
      have d4 := (hc (w.heap.size + 2) 0 (by omega)).trans c4
      have d5 := (hc (w.heap.size + 2) 1 (by omega)).trans c5
      have g0 := (hf (w.heap.size + 2) 0 (by omega)).trans f0
      have g1 := (hf (w.heap.size + 2) 1 (by omega)).trans f1
      clear hc hf hb
      go_wp2_with fail
      refine bodyPost_ret (v := .tuple #[.agg #[.int .i64 0, .int .i64 0], .bool false]) (by simp [results, Try.results54, go_sem, d4, d5]) rfl ⟨fr_no2 rfl, by go_grown⟩
    | true =>
      obtain ⟨⟨p1, p2⟩, ⟨p3, p4⟩, ⟨p5, p6⟩, p7, p8⟩ := bounds ha hb0
      go_enter Try.func54, Try.ntmps54
      go_wp2_with fail
      refine (iValid an ad _).mono ?_
      rintro e w1 ⟨rfl, hb⟩
      have hB : Below w.heap.size w w1 := bel_tr (by go_grown) hb
      have hz := hb.size
      simp at hz
      obtain ⟨hc, hf⟩ := bcell hb
      have c0 := hc (w.heap.size) 0 (by simp <;> omega)
      have c1 := hc (w.heap.size) 1 (by simp <;> omega)
      have c2 := hc (w.heap.size + 1) 0 (by simp <;> omega)
      have c3 := hc (w.heap.size + 1) 1 (by simp <;> omega)
      have c4 := hc (w.heap.size + 2) 0 (by simp <;> omega)
      have c5 := hc (w.heap.size + 2) 1 (by simp <;> omega)
      have f0 := hf (w.heap.size + 2) 0 (by simp <;> omega)
      have f1 := hf (w.heap.size + 2) 1 (by simp <;> omega)
      simp [go_sem] at c0 c1 c2 c3 c4 c5 f0 f1
      clear hc hf hb
      go_wp2_with fail
      refine (iValid bn bd _).mono ?_
      rintro e w2 ⟨rfl, hb⟩
      have hB2 : Below w.heap.size w w2 := bel_tr hB hb
      have hz2 := hb.size
      obtain ⟨hc, hf⟩ := bcell hb
      have d0 := (hc (w.heap.size) 0 (by omega)).trans c0
      have d1 := (hc (w.heap.size) 1 (by omega)).trans c1
      have d2 := (hc (w.heap.size + 1) 0 (by omega)).trans c2
      have d3 := (hc (w.heap.size + 1) 1 (by omega)).trans c3
      have d4 := (hc (w.heap.size + 2) 0 (by omega)).trans c4
      have d5 := (hc (w.heap.size + 2) 1 (by omega)).trans c5
      have g0 := (hf (w.heap.size + 2) 0 (by omega)).trans f0
      have g1 := (hf (w.heap.size + 2) 1 (by omega)).trans f1
      clear hc hf hb
      clear c0 c1 c2 c3 c4 c5 f0 f1
      go_wp2_with fail
      refine (ired (an * bd + bn * ad) (ad * bd) _ (by omega) (by omega)).mono ?_
      rintro e w3 ⟨rfl, hb⟩
      have hB3 : Below w.heap.size w w3 := bel_tr hB2 hb
      obtain ⟨hc, hf⟩ := bcell hb
      have c4 := (hc (w.heap.size + 2) 0 (by omega)).trans d4
      have c5 := (hc (w.heap.size + 2) 1 (by omega)).trans d5
      have f0 := (hf (w.heap.size + 2) 0 (by omega)).trans g0
      have f1 := (hf (w.heap.size + 2) 1 (by omega)).trans g1
      clear hc hf hb
      clear d0 d1 d2 d3 d4 d5 g0 g1
      go_wp2_with fail
      refine bodyPost_ret (v := .tuple #[.agg #[.int .i64 (Wsh.qn (Wsh.redB (an * bd + bn * ad) (ad * bd)) (Wsh.rn (an * bd + bn * ad) (ad * bd))), .int .i64 (Wsh.qn (Wsh.redB (an * bd + bn * ad) (ad * bd)) (Wsh.rd (an * bd + bn * ad) (ad * bd)))], .bool (Wsh.redB (an * bd + bn * ad) (ad * bd))]) (by simp [results, Try.results54, go_sem, c4, c5]) rfl ⟨fr_yes rfl rfl, by go_grown⟩

set_option maxHeartbeats 1000000 in
/-- impl.SubFrac -/
theorem iSub (an ad bn bd : Int) (w : World) :
    Calls Try.prog 81 #[.agg #[.int .i64 an, .int .i64 ad], .agg #[.int .i64 bn, .int .i64 bd]] w fun e w' => e = .returned (frV (Wsh.vfB an ad && Wsh.vfB bn bd && Wsh.redB (an * bd - bn * ad) (ad * bd)) (Wsh.rn (an * bd - bn * ad) (ad * bd)) (Wsh.rd (an * bd - bn * ad) (ad * bd))) ∧ Below w.heap.size w w' := by
  cases ha : Wsh.vfB an ad with
  | false =>
    go_enter Try.func81, Try.ntmps81
    go_wp2_with fail
    refine (iValid an ad _).mono ?_
    rintro e w1 ⟨rfl, hb⟩
    have hB : Below w.heap.size w w1 := bel_tr (by go_grown) hb
    obtain ⟨hc, hf⟩ := bcell hb
    have c0 := hc (w.heap.size) 0 (by simp <;> omega)
    have c1 := hc (w.heap.size) 1 (by simp <;> omega)
    have c2 := hc (w.heap.size + 1) 0 (by simp <;> omega)
    have c3 := hc (w.heap.size + 1) 1 (by simp <;> omega)
    have c4 := hc (w.heap.size + 2) 0 (by simp <;> omega)
    have c5 := hc (w.heap.size + 2) 1 (by simp <;> omega)
    have f0 := hf (w.heap.size + 2) 0 (by simp <;> omega)
    have f1 := hf (w.heap.size + 2) 1 (by simp <;> omega)
    simp [go_sem] at c0 c1 c2 c3 c4 c5 f0 f1
    clear hc hf hb
    go_wp2_with fail
    refine bodyPost_ret (v := .tuple #[.agg #[.int .i64 0, .int .i64 0], .bool false]) (by simp [results, Try.results81, go_sem, c4, c5]) rfl ⟨fr_no1 rfl, by go_grown⟩
  | true =>
    cases hb0 : Wsh.vfB bn bd with
    | false =>
      go_enter Try.func81, Try.ntmps81
      go_wp2_with fail
      refine (iValid an ad _).mono ?_
      rintro e w1 ⟨rfl, hb⟩
      have hB : Below w.heap.size w w1 := bel_tr (by go_grown) hb
      have hz := hb.size
      simp at hz
      obtain ⟨hc, hf⟩ := bcell hb
      have c0 := hc (w.heap.size) 0 (by simp <;> omega)
      have c1 := hc (w.heap.size) 1 (by simp <;> omega)
      have c2 := hc (w.heap.size + 1) 0 (by simp <;> omega)
      have c3 := hc (w.heap.size + 1) 1 (by simp <;> omega)
      have c4 := hc (w.heap.size + 2) 0 (by simp <;> omega)
      have c5 := hc (w.heap.size + 2) 1 (by simp <;> omega)
      have f0 := hf (w.heap.size + 2) 0 (by simp <;> omega)
      have f1 := hf (w.heap.size + 2) 1 (by simp <;> omega)
      simp [go_sem] at c0 c1 c2 c3 c4 c5 f0 f1
      clear hc hf hb
      go_wp2_with fail
      refine (iValid bn bd _).mono ?_
      rintro e w2 ⟨rfl, hb⟩
      have hB2 : Below w.heap.size w w2 := bel_tr hB hb
      obtain ⟨hc, hf⟩ := bcell hb
      have d0 := (hc (w.heap.size) 0 (by omega)).trans c0
      have d1 := (hc (w.heap.size) 1 (by omega)).trans c1
      have d2 := (hc (w.heap.size + 1) 0 (by omega)).trans c2
      have d3 := (hc (w.heap.size + 1) 1 (by omega)).trans c3
      have d4 := (hc (w.heap.size + 2) 0 (by omega)).trans c4
      have d5 := (hc (w.heap.size + 2) 1 (by omega)).trans c5
      have g0 := (hf (w.heap.size + 2) 0 (by omega)).trans f0
      have g1 := (hf (w.heap.size + 2) 1 (by omega)).trans f1
      clear hc hf hb
      go_wp2_with fail
      refine bodyPost_ret (v := .tuple #[.agg #[.int .i64 0, .int .i64 0], .bool false]) (by simp [results, Try.results81, go_sem, d4, d5]) rfl ⟨fr_no2 rfl, by go_grown⟩
    | true =>
      obtain ⟨⟨p1, p2⟩, ⟨p3, p4⟩, ⟨p5, p6⟩, p7, p8⟩ := bounds ha hb0
      go_enter Try.func81, Try.ntmps81
      go_wp2_with fail
      refine (iValid an ad _).mono ?_
      rintro e w1 ⟨rfl, hb⟩
      have hB : Below w.heap.size w w1 := bel_tr (by go_grown) hb
      have hz := hb.size
      simp at hz
      obtain ⟨hc, hf⟩ := bcell hb
      have c0 := hc (w.heap.size) 0 (by simp <;> omega)
      have c1 := hc (w.heap.size) 1 (by simp <;> omega)
      have c2 := hc (w.heap.size + 1) 0 (by simp <;> omega)
      have c3 := hc (w.heap.size + 1) 1 (by simp <;> omega)
      have c4 := hc (w.heap.size + 2) 0 (by simp <;> omega)
      have c5 := hc (w.heap.size + 2) 1 (by simp <;> omega)
      have f0 := hf (w.heap.size + 2) 0 (by simp <;> omega)
      have f1 := hf (w.heap.size + 2) 1 (by simp <;> omega)
      simp [go_sem] at c0 c1 c2 c3 c4 c5 f0 f1
      clear hc hf hb
      go_wp2_with fail
      refine (iValid bn bd _).mono ?_
      rintro e w2 ⟨rfl, hb⟩
      have hB2 : Below w.heap.size w w2 := bel_tr hB hb
      have hz2 := hb.size
      obtain ⟨hc, hf⟩ := bcell hb
      have d0 := (hc (w.heap.size) 0 (by omega)).trans c0
      have d1 := (hc (w.heap.size) 1 (by omega)).trans c1
      have d2 := (hc (w.heap.size + 1) 0 (by omega)).trans c2
      have d3 := (hc (w.heap.size + 1) 1 (by omega)).trans c3
      have d4 := (hc (w.heap.size + 2) 0 (by omega)).trans c4
      have d5 := (hc (w.heap.size + 2) 1 (by omega)).trans c5
      have g0 := (hf (w.heap.size + 2) 0 (by omega)).trans f0
      have g1 := (hf (w.heap.size + 2) 1 (by omega)).trans f1
      clear hc hf hb
      clear c0 c1 c2 c3 c4 c5 f0 f1
      go_wp2_with fail
      refine (ired (an * bd - bn * ad) (ad * bd) _ (by omega) (by omega)).mono ?_
      rintro e w3 ⟨rfl, hb⟩
      have hB3 : Below w.heap.size w w3 := bel_tr hB2 hb
      obtain ⟨hc, hf⟩ := bcell hb
      have c4 := (hc (w.heap.size + 2) 0 (by omega)).trans d4
      have c5 := (hc (w.heap.size + 2) 1 (by omega)).trans d5
      have f0 := (hf (w.heap.size + 2) 0 (by omega)).trans g0
      have f1 := (hf (w.heap.size + 2) 1 (by omega)).trans g1
      clear hc hf hb
      clear d0 d1 d2 d3 d4 d5 g0 g1
      go_wp2_with fail
      refine bodyPost_ret (v := .tuple #[.agg #[.int .i64 (Wsh.qn (Wsh.redB (an * bd - bn * ad) (ad * bd)) (Wsh.rn (an * bd - bn * ad) (ad * bd))), .int .i64 (Wsh.qn (Wsh.redB (an * bd - bn * ad) (ad * bd)) (Wsh.rd (an * bd - bn * ad) (ad * bd)))], .bool (Wsh.redB (an * bd - bn * ad) (ad * bd))]) (by simp [results, Try.results81, go_sem, c4, c5]) rfl ⟨fr_yes rfl rfl, by go_grown⟩

/-- spec.compareFrac -/
theorem scompare (an ad bn bd : Int) (w : World) (ha : Wsh.vfB an ad = true) (hb : Wsh.vfB bn bd = true) :
    Calls Try.prog 76 #[.agg #[.int .i64 an, .int .i64 ad], .agg #[.int .i64 bn, .int .i64 bd]] w fun e w' => e = .returned (.int .i64 (Wsh.cmpI (an * bd) (bn * ad))) ∧ Below w.heap.size w w' := by
  obtain ⟨⟨p1, p2⟩, ⟨p3, p4⟩, ⟨p5, p6⟩, p7, p8⟩ := bounds ha hb
  clear ha hb
  by_cases h1 : an * bd < bn * ad
  · go_enter Try.func76, Try.ntmps76
    go_wp2
    go_ret
    exact ⟨ret_int (Wsh.cmpI_lt h1).symm, by go_grown⟩
  · by_cases h2 : bn * ad < an * bd
    · go_enter Try.func76, Try.ntmps76
      go_wp2
      go_ret
      exact ⟨ret_int (Wsh.cmpI_gt h2).symm, by go_grown⟩
    · go_enter Try.func76, Try.ntmps76
      go_wp2
      go_ret
      exact ⟨ret_int (Wsh.cmpI_eq (by omega)).symm, by go_grown⟩

/-- spec.addFrac -/
theorem sadd (an ad bn bd : Int) (w : World) (ha : Wsh.vfB an ad = true) (hb : Wsh.vfB bn bd = true) :
    Calls Try.prog 75 #[.agg #[.int .i64 an, .int .i64 ad], .agg #[.int .i64 bn, .int .i64 bd]] w fun e w' => e = .returned (frV (Wsh.redB (an * bd + bn * ad) (ad * bd)) (Wsh.rn (an * bd + bn * ad) (ad * bd)) (Wsh.rd (an * bd + bn * ad) (ad * bd))) ∧ Below w.heap.size w w' := by
  obtain ⟨⟨p1, p2⟩, ⟨p3, p4⟩, ⟨p5, p6⟩, p7, p8⟩ := bounds ha hb
  clear ha hb
  go_enter Try.func75, Try.ntmps75
  go_wp2_with fail
  refine (sred (an * bd + bn * ad) (ad * bd) _ (by omega) (by omega) (by omega) (by omega)).mono ?_
  rintro e w1 ⟨rfl, hb⟩
  have hB : Below w.heap.size w w1 := bel_tr (by go_grown) hb
  obtain ⟨hc, hf⟩ := bcell hb
  have c0 := hc (w.heap.size + 2) 0 (by simp <;> omega)
  have c1 := hc (w.heap.size + 2) 1 (by simp <;> omega)
  have f0 := hf (w.heap.size + 2) 0 (by simp <;> omega)
  have f1 := hf (w.heap.size + 2) 1 (by simp <;> omega)
  simp [go_sem] at c0 c1 f0 f1
  clear hc hf hb
  go_wp2_with fail
  refine bodyPost_ret (v := .tuple #[.agg #[.int .i64 (Wsh.qn (Wsh.redB (an * bd + bn * ad) (ad * bd)) (Wsh.rn (an * bd + bn * ad) (ad * bd))), .int .i64 (Wsh.qn (Wsh.redB (an * bd + bn * ad) (ad * bd)) (Wsh.rd (an * bd + bn * ad) (ad * bd)))], .bool (Wsh.redB (an * bd + bn * ad) (ad * bd))]) (by simp [results, Try.results75, go_sem, c0, c1]) rfl ⟨rfl, by go_grown⟩

set_option maxHeartbeats 400000 in
/-- spec.subFrac -/
theorem ssub (an ad bn bd : Int) (w : World) (ha : Wsh.vfB an ad = true) (hb : Wsh.vfB bn bd = true) :
    Calls Try.prog 78 #[.agg #[.int .i64 an, .int .i64 ad], .agg #[.int .i64 bn, .int .i64 bd]] w fun e w' => e = .returned (frV (Wsh.redB (an * bd - bn * ad) (ad * bd)) (Wsh.rn (an * bd - bn * ad) (ad * bd)) (Wsh.rd (an * bd - bn * ad) (ad * bd))) ∧ Below w.heap.size w w' := by
  obtain ⟨⟨p1, p2⟩, ⟨p3, p4⟩, ⟨p5, p6⟩, p7, p8⟩ := bounds ha hb
  by_cases h1 : an * bd < bn * ad
  · have hm : Wsh.cmpI (an * bd) (bn * ad) < 0 := by rw [Wsh.cmpI_lt h1]; decide
    go_enter Try.func78, Try.ntmps78
    go_wp2_with fail
    refine (scompare an ad bn bd _ ha hb).mono ?_
    rintro e w1 ⟨rfl, hb⟩
    have hB : Below w.heap.size w w1 := bel_tr (by go_grown) hb
    obtain ⟨hc, hf⟩ := bcell hb
    have c0 := hc (w.heap.size + 2) 0 (by simp <;> omega)
    have c1 := hc (w.heap.size + 2) 1 (by simp <;> omega)
    have f0 := hf (w.heap.size + 2) 0 (by simp <;> omega)
    have f1 := hf (w.heap.size + 2) 1 (by simp <;> omega)
    simp [go_sem] at c0 c1 f0 f1
    clear hc hf hb
    go_wp2_with fail
    refine bodyPost_ret (v := .tuple #[.agg #[.int .i64 0, .int .i64 0], .bool false]) (by simp [results, Try.results78, go_sem, c0, c1]) rfl ⟨ret_frV (Wsh.redB_no (by omega)) rfl rfl, by go_grown⟩
  · have hm : ¬ Wsh.cmpI (an * bd) (bn * ad) < 0 := by rw [Wsh.cmpI_nlt h1]; simp
    go_enter Try.func78, Try.ntmps78
    go_wp2_with fail
    refine (scompare an ad bn bd _ ha hb).mono ?_
    rintro e w1 ⟨rfl, hb⟩
    have hB : Below w.heap.size w w1 := bel_tr (by go_grown) hb
    have hz := hb.size
    simp at hz
    obtain ⟨hc, hf⟩ := bcell hb
    have c0 := hc (w.heap.size) 0 (by simp <;> omega)
    have c1 := hc (w.heap.size) 1 (by simp <;> omega)
    have c2 := hc (w.heap.size + 1) 0 (by simp <;> omega)
    have c3 := hc (w.heap.size + 1) 1 (by simp <;> omega)
    have c4 := hc (w.heap.size + 2) 0 (by simp <;> omega)
    have c5 := hc (w.heap.size + 2) 1 (by simp <;> omega)
    have f0 := hf (w.heap.size + 2) 0 (by simp <;> omega)
    have f1 := hf (w.heap.size + 2) 1 (by simp <;> omega)
    simp [go_sem] at c0 c1 c2 c3 c4 c5 f0 f1
    clear hc hf hb
    go_wp2_with fail
    refine (sred (an * bd - bn * ad) (ad * bd) _ (by omega) (by omega) (by omega) (by omega)).mono ?_
    rintro e w2 ⟨rfl, hb⟩
    have hB2 : Below w.heap.size w w2 := bel_tr hB hb
    obtain ⟨hc, hf⟩ := bcell hb
    have d4 := (hc (w.heap.size + 2) 0 (by omega)).trans c4
    have d5 := (hc (w.heap.size + 2) 1 (by omega)).trans c5
    have g0 := (hf (w.heap.size + 2) 0 (by omega)).trans f0
    have g1 := (hf (w.heap.size + 2) 1 (by omega)).trans f1
    clear hc hf hb
    clear c0 c1 c2 c3 c4 c5 f0 f1
    go_wp2_with fail
    refine bodyPost_ret (v := .tuple #[.agg #[.int .i64 (Wsh.qn (Wsh.redB (an * bd - bn * ad) (ad * bd)) (Wsh.rn (an * bd - bn * ad) (ad * bd))), .int .i64 (Wsh.qn (Wsh.redB (an * bd - bn * ad) (ad * bd)) (Wsh.rd (an * bd - bn * ad) (ad * bd)))], .bool (Wsh.redB (an * bd - bn * ad) (ad * bd))]) (by simp [results, Try.results78, go_sem, d4, d5]) rfl ⟨rfl, by go_grown⟩

set_option maxHeartbeats 1000000 in
/-- impl.CompareFrac -/
theorem iCompare (an ad bn bd : Int) (w : World) :
    Calls Try.prog 52 #[.agg #[.int .i64 an, .int .i64 ad], .agg #[.int .i64 bn, .int .i64 bd]] w fun e w' => e = .returned (.int .i64 (Wsh.cmpF an ad bn bd)) ∧ Below w.heap.size w w' := by
  cases ha : Wsh.vfB an ad with
  | false =>
    have hq := Wsh.cmpF_no1 bn bd ha
    have HQ := Lib.hid hq
    clear hq
    go_enter Try.func52, Try.ntmps52
    go_wp2_with fail
    refine (iValid an ad _).mono ?_
    rintro e w1 ⟨rfl, hb⟩
    have hB : Below w.heap.size w w1 := bel_tr (by go_grown) hb
    go_wp2_with fail
    go_ret
    exact ⟨ret_int HQ.out.symm, hB⟩
  | true =>
    cases hb0 : Wsh.vfB bn bd with
    | false =>
      have hq := Wsh.cmpF_no2 an ad hb0
      have HQ := Lib.hid hq
      clear hq
      go_enter Try.func52, Try.ntmps52
      go_wp2_with fail
      refine (iValid an ad _).mono ?_
      rintro e w1 ⟨rfl, hb⟩
      have hB : Below w.heap.size w w1 := bel_tr (by go_grown) hb
      have hz := hb.size
      simp at hz
      obtain ⟨hc, hf⟩ := bcell hb
      have c0 := hc (w.heap.size) 0 (by simp <;> omega)
      have c1 := hc (w.heap.size) 1 (by simp <;> omega)
      have c2 := hc (w.heap.size + 1) 0 (by simp <;> omega)
      have c3 := hc (w.heap.size + 1) 1 (by simp <;> omega)
      simp [go_sem] at c0 c1 c2 c3
      clear hc hf hb
      go_wp2_with fail
      refine (iValid bn bd _).mono ?_
      rintro e w2 ⟨rfl, hb⟩
      have hB2 : Below w.heap.size w w2 := bel_tr hB hb
      clear hb
      go_wp2_with fail
      go_ret
      exact ⟨ret_int HQ.out.symm, hB2⟩
    | true =>
      obtain ⟨⟨p1, p2⟩, ⟨p3, p4⟩, ⟨p5, p6⟩, p7, p8⟩ := bounds ha hb0
      have hq := Wsh.cmpF_yes ha hb0
      have HQ := Lib.hid hq
      clear hq
      by_cases h1 : an * bd < bn * ad
      · go_enter Try.func52, Try.ntmps52
        go_wp2_with fail
        refine (iValid an ad _).mono ?_
        rintro e w1 ⟨rfl, hb⟩
        have hB : Below w.heap.size w w1 := bel_tr (by go_grown) hb
        have hz := hb.size
        simp at hz
        obtain ⟨hc, hf⟩ := bcell hb
        have c0 := hc (w.heap.size) 0 (by simp <;> omega)
        have c1 := hc (w.heap.size) 1 (by simp <;> omega)
        have c2 := hc (w.heap.size + 1) 0 (by simp <;> omega)
        have c3 := hc (w.heap.size + 1) 1 (by simp <;> omega)
        simp [go_sem] at c0 c1 c2 c3
        clear hc hf hb
        go_wp2_with fail
        refine (iValid bn bd _).mono ?_
        rintro e w2 ⟨rfl, hb⟩
        have hB2 : Below w.heap.size w w2 := bel_tr hB hb
        have hz2 := hb.size
        obtain ⟨hc, hf⟩ := bcell hb
        have d0 := (hc w.heap.size 0 (by omega)).trans c0
        have d1 := (hc w.heap.size 1 (by omega)).trans c1
        have d2 := (hc (w.heap.size + 1) 0 (by omega)).trans c2
        have d3 := (hc (w.heap.size + 1) 1 (by omega)).trans c3
        clear hc hf hb c0 c1 c2 c3
        go_wp2_with fail
        go_ret
        exact ⟨ret_int (by rw [HQ.out]; exact (Wsh.cmpI_lt h1).symm), hB2⟩
      · by_cases h2 : bn * ad < an * bd
        · go_enter Try.func52, Try.ntmps52
          go_wp2_with fail
          refine (iValid an ad _).mono ?_
          rintro e w1 ⟨rfl, hb⟩
          have hB : Below w.heap.size w w1 := bel_tr (by go_grown) hb
          have hz := hb.size
          simp at hz
          obtain ⟨hc, hf⟩ := bcell hb
          have c0 := hc (w.heap.size) 0 (by simp <;> omega)
          have c1 := hc (w.heap.size) 1 (by simp <;> omega)
          have c2 := hc (w.heap.size + 1) 0 (by simp <;> omega)
          have c3 := hc (w.heap.size + 1) 1 (by simp <;> omega)
          simp [go_sem] at c0 c1 c2 c3
          clear hc hf hb
          go_wp2_with fail
          refine (iValid bn bd _).mono ?_
          rintro e w2 ⟨rfl, hb⟩
          have hB2 : Below w.heap.size w w2 := bel_tr hB hb
          have hz2 := hb.size
          obtain ⟨hc, hf⟩ := bcell hb
          have d0 := (hc w.heap.size 0 (by omega)).trans c0
          have d1 := (hc w.heap.size 1 (by omega)).trans c1
          have d2 := (hc (w.heap.size + 1) 0 (by omega)).trans c2
          have d3 := (hc (w.heap.size + 1) 1 (by omega)).trans c3
          clear hc hf hb c0 c1 c2 c3
          go_wp2_with fail
          go_ret
          exact ⟨ret_int (by rw [HQ.out]; exact (Wsh.cmpI_gt h2).symm), hB2⟩
        · go_enter Try.func52, Try.ntmps52
          go_wp2_with fail
          refine (iValid an ad _).mono ?_
          rintro e w1 ⟨rfl, hb⟩
          have hB : Below w.heap.size w w1 := bel_tr (by go_grown) hb
          have hz := hb.size
          simp at hz
          obtain ⟨hc, hf⟩ := bcell hb
          have c0 := hc (w.heap.size) 0 (by simp <;> omega)
          have c1 := hc (w.heap.size) 1 (by simp <;> omega)
          have c2 := hc (w.heap.size + 1) 0 (by simp <;> omega)
          have c3 := hc (w.heap.size + 1) 1 (by simp <;> omega)
          simp [go_sem] at c0 c1 c2 c3
          clear hc hf hb
          go_wp2_with fail
          refine (iValid bn bd _).mono ?_
          rintro e w2 ⟨rfl, hb⟩
          have hB2 : Below w.heap.size w w2 := bel_tr hB hb
          have hz2 := hb.size
          obtain ⟨hc, hf⟩ := bcell hb
          have d0 := (hc w.heap.size 0 (by omega)).trans c0
          have d1 := (hc w.heap.size 1 (by omega)).trans c1
          have d2 := (hc (w.heap.size + 1) 0 (by omega)).trans c2
          have d3 := (hc (w.heap.size + 1) 1 (by omega)).trans c3
          clear hc hf hb c0 c1 c2 c3
          go_wp2_with fail
          go_ret
          exact ⟨ret_int (by rw [HQ.out]; exact (Wsh.cmpI_eq (by omega)).symm), hB2⟩

end Go.Proofs.Ythagafkjlecagab
namespace Go.Proofs.Ythagafkjlecagab

/-- what is left out behind the place of an owner -/
def skipL (L : Led) (o : Int) (k : Nat) : Nat := if k < L.length ∧ (L.getD k (0, 0)).1 = o then k + 1 else k
theorem filter_far {L : Led} {o : Int} (h : ∀ x ∈ L, x.1 ≠ o) : L.filter (fun h => decide (h.1 ≠ o)) = L := by
  rw [List.filter_eq_self]; intro a ha; simpa using h a ha
/-- the program's way: the first ones of lesser owners, the holding, and the others -/
theorem with_set {L : Led} (ha : Asc L) (o : Int) (q : Rat) : ∀ {k : Nat}, k ≤ L.length → (∀ j, j < k → (L.getD j (0, 0)).1 < o) → (k < L.length → o ≤ (L.getD k (0, 0)).1) →
    setL L o q = L.take k ++ (if q = 0 then [] else [(o, q)]) ++ L.drop (skipL L o k) := by
  have tail : ∀ {h : Int × Rat} {t : Led}, Asc (h :: t) → o ≤ h.1 → (h :: t).filter (fun h => decide (h.1 ≠ o)) = (h :: t).drop (skipL (h :: t) o 0) := by
    intro h t ha ho
    have h1 := List.pairwise_cons.1 ha
    have ht : t.filter (fun h => decide (h.1 ≠ o)) = t := filter_far (fun x hx => by have := h1.1 x hx; omega)
    by_cases e : h.1 = o
    · rw [show skipL (h :: t) o 0 = 1 from by unfold skipL; rw [if_pos ⟨by simp, e⟩], List.filter_cons_of_neg (by simp [e]), ht]; rfl
    · rw [show skipL (h :: t) o 0 = 0 from by unfold skipL; rw [if_neg (fun c => e c.2)], List.filter_cons_of_pos (by simp [e]), ht]; rfl
  induction L with
  | nil =>
    intro k hk _ _
    obtain rfl : k = 0 := by simpa using hk
    by_cases hq : q = 0
    · rw [hq, setL_zero]; rfl
    · rw [setL_ins hq, if_neg hq]; rfl
  | cons h t ih =>
    intro k hk h1 h2
    have hp := List.pairwise_cons.1 ha
    cases k with
    | zero =>
      have ho : o ≤ h.1 := h2 (by simp)
      by_cases hq : q = 0
      · rw [hq, setL_zero, tail ha ho, if_pos rfl]; rfl
      · rw [setL_ins hq, if_neg hq]
        show (if o ≤ h.1 then _ else _) = _
        rw [if_pos ho, tail ha ho]; rfl
    | succ k =>
      have ho : h.1 < o := h1 0 (by omega)
      have := ih hp.2 (k := k) (by simpa using hk) (fun j hj => h1 (j + 1) (by omega)) (fun hl => h2 (by simpa using hl))
      have es : skipL (h :: t) o (k + 1) = skipL t o k + 1 := by
        have eg : (h :: t).getD (k + 1) (0, 0) = t.getD k (0, 0) := rfl
        unfold skipL
        rw [eg]
        by_cases c : k < t.length ∧ (t.getD k (0, 0)).1 = o
        · rw [if_pos c, if_pos ⟨by have := c.1; simpa using this, c.2⟩]
        · rw [if_neg c, if_neg (fun d => c ⟨by simpa using d.1, d.2⟩)]
      rw [es]
      show _ = h :: (t.take k ++ _ ++ t.drop (skipL t o k))
      rw [← this]
      by_cases hq : q = 0
      · rw [hq, setL_zero, setL_zero, List.filter_cons_of_pos (by simp; omega)]
      · rw [setL_ins hq, setL_ins hq]
        show (if o ≤ h.1 then _ else _) = _
        rw [if_neg (by omega)]

/-- the model's loop, up to k -/
def setTo (L : Led) (o : Int) (q : Rat) (k : Nat) : Led × Bool := setP o q (decide (q = 0)) (L.take k)
theorem setTo_zero (L : Led) (o : Int) (q : Rat) : setTo L o q 0 = ([], decide (q = 0)) := rfl
theorem setTo_succ {L : Led} (o : Int) (q : Rat) {k : Nat} (h : k < L.length) :
    setTo L o q (k + 1) = ((setTo L o q k).1 ++ ((if !(setTo L o q k).2 && decide (o ≤ (L.getD k (0, 0)).1) then [(o, q)] else []) ++ (if (L.getD k (0, 0)).1 ≠ o then [L.getD k (0, 0)] else [])), (setTo L o q k).2 || decide (o ≤ (L.getD k (0, 0)).1)) := by
  unfold setTo
  rw [take_snocD L h (0, 0), setP_append]
  simp [setP]
theorem setTo_end (L : Led) (o : Int) (q : Rat) : setL L o q = (setTo L o q L.length).1 ++ (if (setTo L o q L.length).2 then [] else [(o, q)]) := by
  unfold setTo setL
  rw [List.take_of_length_le (Nat.le_refl _)]
theorem setTo_len (L : Led) (o : Int) (q : Rat) : ∀ k, k ≤ L.length → (setTo L o q k).1.length ≤ 2 * k := by
  intro k
  induction k with
  | zero => intro _; simp [setTo_zero]
  | succ k ih =>
    intro h
    have := ih (by omega)
    rw [setTo_succ o q (by omega)]
    simp only [List.length_append]
    have a : (if !(setTo L o q k).2 && decide (o ≤ (L.getD k (0, 0)).1) then [(o, q)] else [] : Led).length ≤ 1 := by split <;> simp
    have b : (if (L.getD k (0, 0)).1 ≠ o then [L.getD k (0, 0)] else [] : Led).length ≤ 1 := by split <;> simp
    omega
/-- the numbers of a share that is set, or none -/
def shareIs (n d : Int) (q : Rat) : Prop := (n = q.num ∧ d = (q.den : Int)) ∨ (n = 0 ∧ q = 0)
theorem shareIs_zero {n d : Int} {q : Rat} (h : shareIs n d q) : decide (q = 0) = decide (n = 0) := by
  rcases h with ⟨h, _⟩ | ⟨h, h2⟩
  · rw [h, decide_eq_decide]; exact (num_zero q).symm
  · rw [h, h2]; rfl
theorem shareIs_raw {n d : Int} {q : Rat} (h : shareIs n d q) (hq : q ≠ 0) (o : Int) : rawH (o, q) = (o, n, d) := by
  rcases h with ⟨h, h1⟩ | ⟨h, h2⟩
  · rw [h, h1]; rfl
  · exact absurd h2 hq
theorem share_ok (b : Bool) (q : Rat) : shareIs (Wsh.qn b q.num) (Wsh.qn b (q.den : Int)) (if b then q else 0) := by
  cases b with
  | true => exact .inl ⟨rfl, rfl⟩
  | false => exact .inr ⟨rfl, rfl⟩
theorem share_no : shareIs 0 1 0 := .inl ⟨rfl, rfl⟩
theorem fr_set {L : Led} (h : ∀ x ∈ L, frB x.2 = true) (o : Int) {q : Rat} (hq : frB q = true) : ∀ x ∈ setL L o q, frB x.2 = true := by
  by_cases e : q = 0
  · rw [e, setL_zero]; exact fun x hx => h x (List.mem_filter.1 hx).1
  · rw [setL_ins e]
    intro x hx
    rcases ins_mem hx with rfl | hx
    · exact hq
    · exact h x hx
theorem share_frA {L : Led} (h : ∀ x ∈ L, frB x.2 = true) (o : Int) : frB (shareL L o) = true := by
  by_cases e : shareL L o = 0
  · rw [e]; exact frB_zero
  · obtain ⟨x, hx, _, h2⟩ := share_mem e
    rw [← h2]; exact h x hx
theorem set_len {L : Led} (o : Int) (q : Rat) : (setL L o q).length ≤ L.length + 1 := by
  by_cases e : q = 0
  · rw [e, setL_zero]; have := List.length_filter_le (fun h : Int × Rat => decide (h.1 ≠ o)) L; omega
  · rw [setL_ins e]
    induction L with
    | nil => simp [insL]
    | cons h t ih =>
      unfold insL
      split
      · have := List.length_filter_le (fun h : Int × Rat => decide (h.1 ≠ o)) (h :: t); simp only [List.length_cons] at this ⊢; omega
      · simp only [List.length_cons]; omega
end Go.Proofs.Ythagafkjlecagab
namespace Go.Proofs.Ythagafkjlecagab
open Go.RowKit

/-- holdings hs, read through a slice at address a -/
def IsHs (w : World) (a : Option Addr) (hs : List Hd) : Prop := hs = [] ∨ ∃ g o, a = some ⟨g, o, none⟩ ∧ ∀ i, i < hs.length → w.cell? ⟨g, o + i * 3, none⟩ = some (.int .i64 (hs.getD i hd0).1) ∧ w.cell? ⟨g, o + i * 3 + 1, none⟩ = some (.int .i64 (hs.getD i hd0).2.1) ∧ w.cell? ⟨g, o + i * 3 + 2, none⟩ = some (.int .i64 (hs.getD i hd0).2.2)
theorem hs_below {w w' : World} {a : Option Addr} {hs : List Hd} (h : IsHs w a hs) (hB : Below w.heap.size w w') : IsHs w' a hs := by
  rcases h with h | ⟨g, o, ha, hc⟩
  · exact .inl h
  · refine .inr ⟨g, o, ha, fun i hi => ?_⟩
    obtain ⟨c0, c1, c2⟩ := hc i hi
    exact ⟨(hB.cell (p := ⟨g, _, none⟩) (World.block_lt_of_cell? w _ c0)).trans c0, (hB.cell (p := ⟨g, _, none⟩) (World.block_lt_of_cell? w _ c1)).trans c1, (hB.cell (p := ⟨g, _, none⟩) (World.block_lt_of_cell? w _ c2)).trans c2⟩

theorem iowner_yes (n : Int) (w : World) (h1 : 1 ≤ n) (h2 : n ≤ 999) :
    Calls Try.prog 59 #[.int .i64 n] w fun e w' => e = .returned (.bool true) ∧ w = w' := by
  go_enter Try.func59, Try.ntmps59
  go_wp2
  go_ret
  exact ⟨rfl, rfl⟩
theorem iowner_no (n : Int) (w : World) (h : n < 1 ∨ 999 < n) :
    Calls Try.prog 59 #[.int .i64 n] w fun e w' => e = .returned (.bool false) ∧ w = w' := by
  by_cases h1 : 1 ≤ n
  · have hd : decide (n ≤ 999) = false := by simp; omega
    clear h
    go_enter Try.func59, Try.ntmps59
    go_wp2
    go_ret
    exact ⟨rfl, rfl⟩
  · have hd : decide (1 ≤ n) = false := by simpa using h1
    clear h
    go_enter Try.func59, Try.ntmps59
    go_wp2
    go_ret
    exact ⟨rfl, rfl⟩

theorem okA_def (hs : List Hd) (k : Nat) : okA hs k = (decide (prevO hs k < (hs.getD k hd0).1) && decide (1 ≤ (hs.getD k hd0).1) && decide ((hs.getD k hd0).1 ≤ 999)) := rfl
theorem prev_succ (hs : List Hd) (k : Nat) : prevO hs (k + 1) = (hs.getD k hd0).1 := by unfold prevO; rw [if_neg (by omega)]; rfl

set_option maxHeartbeats 1000000 in
/-- impl.ownersAscend -/
theorem iasc (a : Option Addr) (cap : Nat) (hs : List Hd) (w : World) (h : IsHs w a hs) (hn : hs.length ≤ 1048576) :
    Calls Try.prog 57 #[.slice a hs.length cap] w fun e w' => e = .returned (.bool (ascB hs)) ∧ Below w.heap.size w w' := by
  rcases h with rfl | ⟨g, o, rfl, hc⟩
  · go_enter Try.func57, Try.ntmps57
    go_wp2
    go_rounds 1
    go_ret
    exact ⟨rfl, by go_grown⟩
  · have HC := Lib.hid hc
    clear hc
    go_enter Try.func57, Try.ntmps57
    go_wp2
    go_loopw [3, 8] (fun l i wr => ∃ k : Nat, k ≤ hs.length ∧ i = .int .i64 k ∧ l = .int .i64 (prevO hs k) ∧ Hid (∀ j, j < k → okA hs j = true) ∧ Below w.heap.size w wr) (fun _ i _ => hs.length - (intOf i).toNat)
    case atStart => exact ⟨0, Nat.zero_le _, rfl, rfl, fun j hj => by omega, by go_grown⟩
    case round =>
      obtain ⟨k, hk, rfl, rfl, HA, hB⟩ := hrel
      by_cases hlt : k < hs.length
      · obtain ⟨d0, d1, d2⟩ := HC.out k hlt
        have c0 := (hB.cell (p := ⟨g, _, none⟩) (World.block_lt_of_cell? w _ d0)).trans d0
        have c1 := (hB.cell (p := ⟨g, _, none⟩) (World.block_lt_of_cell? w _ d1)).trans d1
        have c2 := (hB.cell (p := ⟨g, _, none⟩) (World.block_lt_of_cell? w _ d2)).trans d2
        have hok := okA_def hs k
        have hpv := prev_succ hs k
        clear d0 d1 d2
        generalize hs.getD k hd0 = hh at c0 c1 c2 hok hpv
        obtain ⟨x, n, d⟩ := hh
        generalize prevO hs k = p at hok
        dsimp only at c0 c1 c2 hok hpv
        have HO := Lib.hid hok
        have HP := Lib.hid hpv
        have HB := Lib.hid hB
        clear hok hpv hB
        by_cases h1 : x ≤ p
        · have HN : Hid (ascB hs = false) := rng_no hlt (by rw [HO.out, decide_eq_false (by omega : ¬ p < x)]; rfl)
          go_wp2_with fail
          go_ret
          exact ⟨ret_bool HN.out.symm, HB.out.alloc HB.out.size _⟩
        · have e1 : decide (x ≤ p) = false := by simpa using h1
          by_cases h2 : 1 ≤ x ∧ x ≤ 999
          · have HY : Hid (∀ j, j < k + 1 → okA hs j = true) := rng_more HA.out (by rw [HO.out]; simp; omega)
            go_wp2_with fail
            refine (iowner_yes x _ h2.1 h2.2).mono ?_
            rintro e w' ⟨rfl, rfl⟩
            go_wp2_with fail
            go_roundw
            case rel => exact ⟨k + 1, by omega, by go_num, by rw [HP.out], HY.out, HB.out.alloc HB.out.size _⟩
            case measure => simp [intOf]; omega
          · have HN : Hid (ascB hs = false) := rng_no hlt (by rw [HO.out]; simp; omega)
            go_wp2_with fail
            refine (iowner_no x _ (by omega)).mono ?_
            rintro e w' ⟨rfl, rfl⟩
            go_wp2_with fail
            go_ret
            exact ⟨ret_bool HN.out.symm, HB.out.alloc HB.out.size _⟩
      · go_wp2_with fail
        go_ret
        exact ⟨ret_bool (rng_yes (fun j hj => HA.out j (by omega))).symm, hB⟩
end Go.Proofs.Ythagafkjlecagab
namespace Go.Proofs.Ythagafkjlecagab
open Go.RowKit
/-- block g is just the cells cs -/
def Blk (w : World) (g : Nat) (t : TypeId) (cs : Array Value) : Prop := w.heap[g]? = some (.cells cs t (0, 0))
section
variable {w w' : World} {g : Nat} {t : TypeId} {cs : Array Value}
theorem Blk.lt (h : Blk w g t cs) : g < w.heap.size := by
  rcases Nat.lt_or_ge g w.heap.size with hlt | hge
  · exact hlt
  · unfold Blk at h; rw [Array.getElem?_eq_none hge] at h; cases h
theorem Blk.cell (h : Blk w g t cs) (i : Nat) : w.cell? ⟨g, i, none⟩ = cs[i]? := cell_of_row w g i cs t (0, 0) h
theorem Blk.frozen (h : Blk w g t cs) (i : Nat) : w.frozen? ⟨g, i, none⟩ = false := by
  unfold Blk at h
  simp [World.frozen?, h]
theorem Blk.new (w : World) (t : TypeId) (cs : Array Value) : Blk (w.alloc (.cells cs t)) w.heap.size t cs := heap_alloc_new w _
theorem Blk.alloc (h : Blk w g t cs) (o : Obj) : Blk (w.alloc o) g t cs := (Below.heap_alloc w o g h.lt).trans h
theorem Blk.drewN (h : Blk w g t cs) (n : Nat) : Blk (w.drewN n) g t cs := h
theorem Blk.drew (h : Blk w g t cs) : Blk w.drew g t cs := h
theorem Blk.set_ (h : Blk w g t cs) (i : Nat) (u : Value) : Blk (w.setCell ⟨g, i, none⟩ u) g t (cs.setIfInBounds i u) := by
  unfold Blk at h ⊢
  simp [World.setCell, Array.getElem?_modify, h]
theorem Blk.far (h : Blk w g t cs) {p : Addr} (hp : g ≠ p.block) (u : Value) : Blk (w.setCell p u) g t cs := (Below.heap_setCell w p u g hp).trans h
theorem Blk.below {B : Nat} (h : Blk w g t cs) (hb : Below B w w') (hg : g < B) : Blk w' g t cs := (hb.block g hg).trans h
theorem Blk.next (h : Blk w g t cs) (hb : Below w.heap.size w w') : Blk w' g t cs := h.below hb h.lt
theorem Blk.grown {row : Option Nat} (h : Blk w g t cs) (hb : w.grownBy w' row) (hg : some g ≠ row) : Blk w' g t cs := (hb.block g h.lt hg).trans h
/-- a block of two cells that is written anew -/
theorem Blk.two {x y : Value} (h : Blk w g t #[x, y]) (u v : Value) : Blk ((w.setCell ⟨g, 0, none⟩ u).setCell ⟨g, 1, none⟩ v) g t #[u, v] := (h.set_ 0 u).set_ 1 v
end
theorem blk_two {w : World} {g : Nat} {t : TypeId} {x y : Value} (h : Blk w g t #[x, y]) : w.cell? ⟨g, 0, none⟩ = some x ∧ w.cell? ⟨g, 1, none⟩ = some y ∧ w.frozen? ⟨g, 0, none⟩ = false ∧ w.frozen? ⟨g, 1, none⟩ = false ∧ g < w.heap.size := ⟨h.cell 0, h.cell 1, h.frozen 0, h.frozen 1, h.lt⟩
end Go.Proofs.Ythagafkjlecagab
namespace Go.Proofs.Ythagafkjlecagab
open Go.RowKit

theorem inoShare (w : World) : Calls Try.prog 58 #[] w fun e w' => e = .returned (.agg #[.int .i64 0, .int .i64 1]) ∧ Below w.heap.size w w' := by
  go_enter Try.func58, Try.ntmps58
  go_wp2
  refine bodyPost_ret (v := .agg #[.int .i64 0, .int .i64 1]) (by simp [results, Try.results58, go_sem]) rfl ⟨rfl, by go_grown⟩

/-- a sum of fractions by impl.AddFrac, its value known -/
theorem iAddQ {an ad bn bd x y : Int} (w : World) (hb : (Wsh.vfB an ad && Wsh.vfB bn bd && Wsh.redB (an * bd + bn * ad) (ad * bd)) = true) (hx : Wsh.rn (an * bd + bn * ad) (ad * bd) = x) (hy : Wsh.rd (an * bd + bn * ad) (ad * bd) = y) :
    Calls Try.prog 54 #[.agg #[.int .i64 an, .int .i64 ad], .agg #[.int .i64 bn, .int .i64 bd]] w fun e w' => e = .returned (.tuple #[.agg #[.int .i64 x, .int .i64 y], .bool true]) ∧ Below w.heap.size w w' := by
  have := iAdd an ad bn bd w
  rw [hb, hx, hy] at this; exact this
theorem iAddN {an ad bn bd : Int} (w : World) (hb : (Wsh.vfB an ad && Wsh.vfB bn bd && Wsh.redB (an * bd + bn * ad) (ad * bd)) = false) :
    Calls Try.prog 54 #[.agg #[.int .i64 an, .int .i64 ad], .agg #[.int .i64 bn, .int .i64 bd]] w fun e w' => e = .returned (.tuple #[.agg #[.int .i64 0, .int .i64 0], .bool false]) ∧ Below w.heap.size w w' := by
  have := iAdd an ad bn bd w
  rw [hb] at this; exact this

theorem vl_no0 {hs : List Hd} (h : 12 < hs.length) : vlR hs = false := by unfold vlR; rw [decide_eq_false (by omega : ¬ hs.length ≤ 12)]; rfl
theorem vl_no1 {hs : List Hd} (h : ascB hs = false) : vlR hs = false := by unfold vlR; rw [h]; simp
theorem vl_no2 {hs : List Hd} {k : Nat} (hk : k < hs.length) (h : okS hs k = false) : vlR hs = false := by unfold vlR allS; rw [rng_no hk h]; simp
theorem vl_end {hs : List Hd} (h1 : hs.length ≤ 12) (h2 : ascB hs = true) (h3 : ∀ j, j < hs.length → okS hs j = true) : vlR hs = decide ((sumQ hs hs.length).num = ((sumQ hs hs.length).den : Int)) := by
  unfold vlR allS
  rw [decide_eq_true h1, h2, rng_yes h3, decide_eq_decide.2 one_iff]; rfl

theorem sum_fr {hs : List Hd} {k : Nat} (h : ∀ j, j < k → okS hs j = true) : frB (sumQ hs k) = true := by
  cases k with
  | zero => exact frB_zero
  | succ k => exact (okS_is (h k (by omega))).2
theorem cells_at {w wr : World} {g o : Nat} {hs : List Hd} (hc : ∀ i, i < hs.length → w.cell? ⟨g, o + i * 3, none⟩ = some (.int .i64 (hs.getD i hd0).1) ∧ w.cell? ⟨g, o + i * 3 + 1, none⟩ = some (.int .i64 (hs.getD i hd0).2.1) ∧ w.cell? ⟨g, o + i * 3 + 2, none⟩ = some (.int .i64 (hs.getD i hd0).2.2)) (hB : Below w.heap.size w wr) {k : Nat} (hk : k < hs.length) :
    wr.cell? ⟨g, o + k * 3, none⟩ = some (.int .i64 (hs.getD k hd0).1) ∧ wr.cell? ⟨g, o + k * 3 + 1, none⟩ = some (.int .i64 (hs.getD k hd0).2.1) ∧ wr.cell? ⟨g, o + k * 3 + 2, none⟩ = some (.int .i64 (hs.getD k hd0).2.2) := by
  obtain ⟨d0, d1, d2⟩ := hc k hk
  exact ⟨(hB.cell (p := ⟨g, _, none⟩) (World.block_lt_of_cell? w _ d0)).trans d0, (hB.cell (p := ⟨g, _, none⟩) (World.block_lt_of_cell? w _ d1)).trans d1, (hB.cell (p := ⟨g, _, none⟩) (World.block_lt_of_cell? w _ d2)).trans d2⟩

set_option maxHeartbeats 1000000 in
/-- impl.ValidLedger -/
theorem iVL (a : Option Addr) (cap : Nat) (hs : List Hd) (w : World) (h : IsHs w a hs) (hn : hs.length ≤ 1048576) :
    Calls Try.prog 26 #[.slice a hs.length cap] w fun e w' => e = .returned (.bool (vlR hs)) ∧ Below w.heap.size w w' := by
  by_cases h12 : 12 < hs.length
  · go_enter Try.func26, Try.ntmps26
    go_wp2_with fail
    go_ret
    exact ⟨ret_bool (vl_no0 h12).symm, by go_grown⟩
  have g12 : decide (12 < (hs.length : Int)) = false := by simp; omega
  cases ha : ascB hs with
  | false =>
    have HN := Lib.hid (vl_no1 ha)
    have IA := iasc a cap hs w h hn
    rw [ha] at IA
    clear ha
    go_enter Try.func26, Try.ntmps26
    go_wp2_with fail
    refine IA.mono ?_
    rintro e w1 ⟨rfl, hb⟩
    go_wp2_with fail
    go_ret
    exact ⟨ret_bool HN.out.symm, hb⟩
  | true =>
    have HA := Lib.hid ha
    have IA := iasc a cap hs w h hn
    rw [ha] at IA
    clear ha
    go_enter Try.func26, Try.ntmps26
    go_wp2_with fail
    refine IA.mono ?_
    rintro e w1 ⟨rfl, hb⟩
    clear IA
    go_wp2_with fail
    refine (inoShare _).mono ?_
    rintro e w2 ⟨rfl, hb2⟩
    have hB := bel_tr hb hb2
    obtain ⟨S, hS⟩ : ∃ S, S = w2.heap.size := ⟨_, rfl⟩
    have hSw : w.heap.size ≤ S := by rw [hS]; exact hB.size
    rcases h with rfl | ⟨g, o, rfl, hc⟩
    · go_wp2_with fail
      refine wp_loop_rounds 1 ?_
      rw [rounds_succ]
      go_wp2_with fail
      go_ret
      exact ⟨rfl, hB.alloc hB.size _⟩
    · have HC := Lib.hid hc
      clear hc
      go_wp2_with fail
      rw [← hS]
      have hB0 : Below w.heap.size w (w2.alloc (.cells #[.int .i64 0, .int .i64 1] 46)) := hB.alloc hB.size _
      have hS0 : Blk (w2.alloc (.cells #[.int .i64 0, .int .i64 1] 46)) S 46 #[.int .i64 0, .int .i64 1] := by rw [hS]; exact Blk.new _ _ _
      clear hS hb hb2
      go_loopw [19] (fun i wr => ∃ k : Nat, k ≤ hs.length ∧ i = .int .i64 k ∧ Hid (∀ j, j < k → okS hs j = true) ∧ Blk wr S 46 #[.int .i64 (sumQ hs k).num, .int .i64 ((sumQ hs k).den : Int)] ∧ Below w.heap.size w wr) (fun i _ => hs.length - (intOf i).toNat)
      case atStart => exact ⟨0, Nat.zero_le _, rfl, fun j hj => by omega, hS0, hB0⟩
      case round =>
        clear hB0 hS0 hB
        obtain ⟨k, hk, rfl, HK, hS, hB⟩ := hrel
        by_cases hlt : k < hs.length
        · obtain ⟨c0, c1, c2⟩ := cells_at HC.out hB hlt
          have n0 : (hs.getD k hd0).2.1 = 0 → vlR hs = false := fun e => vl_no2 hlt (okS_no (okF_no2 e))
          have n1 : Wsh.vfB (hs.getD k hd0).2.1 (hs.getD k hd0).2.2 = false → vlR hs = false := fun e => vl_no2 hlt (okS_no (okF_no1 e))
          have n2 : frB (sumQ hs (k + 1)) = false → vlR hs = false := fun e => vl_no2 hlt (okS_no2 e)
          have y2 : Wsh.vfB (hs.getD k hd0).2.1 (hs.getD k hd0).2.2 = true → (hs.getD k hd0).2.1 ≠ 0 → frB (sumQ hs (k + 1)) = true → ∀ j, j < k + 1 → okS hs j = true := fun a b c => rng_more HK.out (okS_yes (okF_yes a b) c)
          have sr := sum_red hlt
          have qf := q_vf (sum_fr HK.out)
          generalize hs.getD k hd0 = hh at c0 c1 c2 n0 n1 n2 y2 sr
          obtain ⟨x, n, d⟩ := hh
          dsimp only at c0 c1 c2 n0 n1 n2 y2 sr
          obtain ⟨s0, s1, s2, s3, s4⟩ := blk_two hS
          have N0 := Lib.hid n0
          have N1 := Lib.hid n1
          have N2 := Lib.hid n2
          have Y2 := Lib.hid y2
          have SR := Lib.hid sr
          have QF := Lib.hid qf
          have HS := Lib.hid hS
          have HB := Lib.hid hB
          clear n0 n1 n2 y2 sr qf hS hB
          by_cases hz : n = 0
          · have e : (n == 0) = true := by simpa using hz
            have HN := Lib.hid (N0.out hz)
            clear hz
            go_wp2_with fail
            go_ret
            exact ⟨ret_bool HN.out.symm, HB.out.alloc HB.out.size _⟩
          · have e : (n == 0) = false := by simpa using hz
            have HZ := Lib.hid hz
            clear hz
            cases hv : Wsh.vfB n d with
            | false =>
              have HN := Lib.hid (N1.out hv)
              have HV := Lib.hid hv
              clear hv
              go_wp2_with fail
              refine (iAddN _ (by rw [HV.out]; simp)).mono ?_
              rintro e w3 ⟨rfl, hb⟩
              go_wp2_with fail
              go_ret
              exact ⟨ret_bool HN.out.symm, (bel_tr (HB.out.alloc HB.out.size _) hb).alloc (bel_tr (HB.out.alloc HB.out.size _) hb).size _⟩
            | true =>
              obtain ⟨r1, r2, r3⟩ := SR.out hv
              cases hf : frB (sumQ hs (k + 1)) with
              | false =>
                have HN := Lib.hid (N2.out hf)
                have HR : Hid _ := r1.trans hf
                clear hv hf r1 r2 r3
                go_wp2_with fail
                refine (iAddN _ (by rw [HR.out]; simp)).mono ?_
                rintro e w3 ⟨rfl, hb⟩
                go_wp2_with fail
                go_ret
                exact ⟨ret_bool HN.out.symm, (bel_tr (HB.out.alloc HB.out.size _) hb).alloc (bel_tr (HB.out.alloc HB.out.size _) hb).size _⟩
              | true =>
                have HY := Lib.hid (Y2.out hv HZ.out hf)
                have HR := Lib.hid (r1.trans hf)
                have H2 := Lib.hid r2
                have H3 := Lib.hid r3
                have HV := Lib.hid hv
                clear hv hf r1 r2 r3
                go_wp2_with fail
                refine (iAddQ _ (by rw [QF.out, HV.out, HR.out]; rfl) H2.out H3.out).mono ?_
                rintro e w3 ⟨rfl, hb⟩
                have hB3 := bel_tr (HB.out.alloc HB.out.size _) hb
                have hS3 := (HS.out.alloc _).next hb
                obtain ⟨t0, t1, t2, t3, t4⟩ := blk_two hS3
                clear s0 s1 s2 s3 s4 c0 c1 c2
                go_wp2_with fail
                go_roundw
                case rel => exact ⟨k + 1, by omega, by go_num, HY.out, (hS3.two _ _).alloc _, ((hB3.setCell (by exact hSw) _).setCell (by exact hSw) _).alloc (by simpa using hB3.size) _⟩
                case measure => simp [intOf]; omega
        · obtain rfl : hs.length = k := by omega
          obtain ⟨s0, s1, s2, s3, s4⟩ := blk_two hS
          have HN := Lib.hid (vl_end (by omega) HA.out HK.out)
          generalize (sumQ hs hs.length).num = x at s0 HN
          generalize ((sumQ hs hs.length).den : Int) = y at s1 HN
          clear hS
          go_wp2_with fail
          go_ret
          exact ⟨ret_bool HN.out.symm, hB⟩
end Go.Proofs.Ythagafkjlecagab
