/- Plain laws on fractions: greatest common divisors, reduced fractions, sums, differences, products, parts. No condition but those that each theorem states. -/
namespace Wsh
/-- valid fraction, as a Bool -/
def vfB (n d : Int) : Bool := decide (1 ≤ d) && decide (d ≤ 10000) && decide (0 ≤ n) && decide (n ≤ d) && decide (Int.gcd n d = 1)
theorem vfB_iff (n d : Int) : vfB n d = true ↔ (1 ≤ d ∧ d ≤ 10000 ∧ 0 ≤ n ∧ n ≤ d ∧ Int.gcd n d = 1) := by
  unfold vfB; simp [and_assoc]
def rn (n d : Int) : Int := n / (Int.gcd n d : Int)
def rd (n d : Int) : Int := d / (Int.gcd n d : Int)
def redB (n d : Int) : Bool := decide (0 ≤ n) && decide (n ≤ d) && decide (rd n d ≤ 10000)

theorem gcd_step (a b : Int) (ha : 0 ≤ a) (hb : 0 < b) : Int.gcd b (a % b) = Int.gcd a b := by
  rw [Int.gcd_comm a b]
  obtain ⟨n, rfl⟩ := Int.eq_ofNat_of_zero_le ha
  obtain ⟨m, rfl⟩ := Int.eq_ofNat_of_zero_le (Int.le_of_lt hb)
  rw [← Int.natCast_emod]
  simp only [Int.gcd_natCast_natCast]
  rw [Nat.gcd_comm m n, Nat.gcd_comm m (n % m), ← Nat.gcd_rec, Nat.gcd_comm]

theorem gcd_pos (n d : Int) (hd : 0 < d) : 0 < (Int.gcd n d : Int) := by
  have : Int.gcd n d ≠ 0 := by
    intro h
    have := Int.gcd_eq_zero_iff.1 h
    omega
  omega
theorem rn_mul (n d : Int) : rn n d * (Int.gcd n d : Int) = n := Int.ediv_mul_cancel (Int.gcd_dvd_left ..)
theorem rd_mul (n d : Int) : rd n d * (Int.gcd n d : Int) = d := Int.ediv_mul_cancel (Int.gcd_dvd_right ..)
theorem rd_pos (n d : Int) (hd : 0 < d) : 0 < rd n d := by
  have h := rd_mul n d
  have hg := gcd_pos n d hd
  apply Int.pos_of_mul_pos_left _ hg
  rw [h]; exact hd
theorem mulx (x y g : Int) : x * (y * g) = x * g * y := by grind
theorem cross (n d : Int) : rn n d * d = n * rd n d := by
  have h1 := rn_mul n d
  have h2 := rd_mul n d
  have h3 := mulx (rn n d) (rd n d) (Int.gcd n d : Int)
  rw [h1, h2] at h3
  exact h3
theorem dvd_cancel {b a e : Int} (h : b ∣ a * e) (g : Int.gcd a b = 1) : b ∣ e := by
  have := (Int.dvd_gcd_mul_iff_dvd_mul (k := b) (n := a) (m := e)).2 h
  rw [Int.gcd_comm, g] at this
  simpa using this
theorem gcd_red (n d : Int) (hd : 0 < d) : Int.gcd (rn n d) (rd n d) = 1 := by
  unfold rn rd
  exact Int.gcd_ediv_gcd_ediv_gcd (by have := gcd_pos n d hd; omega)
theorem red_valid (n d : Int) (hd : 0 < d) (h : redB n d = true) : vfB (rn n d) (rd n d) = true := by
  unfold redB at h
  simp only [Bool.and_eq_true, decide_eq_true_eq] at h
  obtain ⟨⟨h1, h2⟩, h3⟩ := h
  have hg := gcd_pos n d hd
  have hp := rd_pos n d hd
  rw [vfB_iff]
  refine ⟨by omega, h3, ?_, ?_, gcd_red n d hd⟩
  · exact Int.ediv_nonneg h1 (by omega)
  · exact Int.ediv_le_ediv hg h2
/-- a number is its own reduced fraction if it is valid -/
theorem red_self (n d : Int) (h : vfB n d = true) : rn n d = n ∧ rd n d = d ∧ redB n d = true := by
  rw [vfB_iff] at h
  obtain ⟨h1, h2, h3, h4, h5⟩ := h
  have e1 : rn n d = n := by unfold rn; rw [h5]; simp
  have e2 : rd n d = d := by unfold rd; rw [h5]; simp
  refine ⟨e1, e2, ?_⟩
  unfold redB
  rw [e2]
  simp [h2, h3, h4]
theorem uniq (a b c e : Int) (h : vfB a b = true) (k : vfB c e = true) (hx : a * e = c * b) : a = c ∧ b = e := by
  rw [vfB_iff] at h k
  obtain ⟨h1, h2, h3, h4, h5⟩ := h
  obtain ⟨k1, k2, k3, k4, k5⟩ := k
  have d1 : b ∣ e := by
    have : b ∣ a * e := ⟨c, by rw [hx]; exact Int.mul_comm _ _⟩
    exact dvd_cancel this (h5)
  have d2 : e ∣ b := by
    have : e ∣ c * b := ⟨a, by rw [← hx]; exact Int.mul_comm _ _⟩
    exact dvd_cancel this (k5)
  have hbe : b = e := Int.dvd_antisymm (by omega) (by omega) d1 d2
  refine ⟨?_, hbe⟩
  subst hbe
  exact Int.eq_of_mul_eq_mul_right (by omega) hx
/-- the reduced fraction of two numbers is the valid one that is as great -/
theorem red_eq (n d a b : Int) (hd : 0 < d) (h : vfB a b = true) (hx : n * b = a * d) : rn n d = a ∧ rd n d = b ∧ redB n d = true := by
  have hb := (vfB_iff a b).1 h
  have hc := cross n d
  have hp := rd_pos n d hd
  have hg := gcd_red n d hd
  -- value: rn * b = a * rd
  have e : rn n d * b = a * rd n d := by
    apply Int.eq_of_mul_eq_mul_right (a := d) (by omega)
    have t1 : rn n d * b * d = (rn n d * d) * b := by grind
    have t2 : a * rd n d * d = (a * d) * rd n d := by grind
    rw [t1, t2, hc, ← hx]; grind
  have d1 : b ∣ rd n d := by
    have : b ∣ a * rd n d := ⟨rn n d, by rw [← e]; exact Int.mul_comm _ _⟩
    exact dvd_cancel this (hb.2.2.2.2)
  have d2 : rd n d ∣ b := by
    have : rd n d ∣ rn n d * b := ⟨a, by rw [e]; exact Int.mul_comm _ _⟩
    exact dvd_cancel this (hg)
  have hbe : rd n d = b := Int.dvd_antisymm (by omega) (by omega) d2 d1
  rw [hbe] at e
  have ha : rn n d = a := Int.eq_of_mul_eq_mul_right (by omega) e
  refine ⟨ha, hbe, ?_⟩
  unfold redB
  have hn : 0 ≤ n := by
    have := Int.mul_nonneg hb.2.2.1 (Int.le_of_lt hd)
    rw [← hx] at this
    exact Int.nonneg_of_mul_nonneg_left this (by omega)
  have hnd : n ≤ d := by
    have : a * d ≤ b * d := Int.mul_le_mul_of_nonneg_right hb.2.2.2.1 (by omega)
    rw [← hx, Int.mul_comm b d] at this
    exact Int.le_of_mul_le_mul_right this (by omega)
  simp [hn, hnd, hbe, hb.2.1]
theorem mul_bd {x y : Int} (hx : 0 ≤ x) (hx' : x ≤ 10000) (hy : 0 ≤ y) (hy' : y ≤ 10000) : 0 ≤ x * y ∧ x * y ≤ 100000000 :=
  ⟨Int.mul_nonneg hx hy, Int.le_trans (Int.mul_le_mul hx' hy' hy (by omega)) (by decide)⟩
theorem mul_pos1 {x y : Int} (hx : 1 ≤ x) (hy : 1 ≤ y) : 1 ≤ x * y := Int.mul_pos (by omega) (by omega)

/-- AddFrac, then SubFrac of the sum: the fraction again. -/
theorem sub_of_add (an ad bn bd : Int) (ha : vfB an ad = true) (hb : vfB bn bd = true) (_h : redB (an * bd + bn * ad) (ad * bd) = true) :
    rn (rn (an * bd + bn * ad) (ad * bd) * bd - bn * rd (an * bd + bn * ad) (ad * bd)) (rd (an * bd + bn * ad) (ad * bd) * bd) = an ∧
    rd (rn (an * bd + bn * ad) (ad * bd) * bd - bn * rd (an * bd + bn * ad) (ad * bd)) (rd (an * bd + bn * ad) (ad * bd) * bd) = ad ∧
    redB (rn (an * bd + bn * ad) (ad * bd) * bd - bn * rd (an * bd + bn * ad) (ad * bd)) (rd (an * bd + bn * ad) (ad * bd) * bd) = true := by
  have ka := (vfB_iff _ _).1 ha
  have kb := (vfB_iff _ _).1 hb
  have hD : 0 < ad * bd := Int.mul_pos (by omega) (by omega)
  have hc := cross (an * bd + bn * ad) (ad * bd)
  have hp := rd_pos (an * bd + bn * ad) (ad * bd) hD
  generalize rn (an * bd + bn * ad) (ad * bd) = on at *
  generalize rd (an * bd + bn * ad) (ad * bd) = od at *
  refine red_eq _ _ _ _ (Int.mul_pos hp (by omega)) ha ?_
  have e1 : (on * bd - bn * od) * ad = on * (ad * bd) - bn * od * ad := by grind
  rw [e1, hc]; grind
theorem add_ge (an ad bn bd : Int) (ha : vfB an ad = true) (hb : vfB bn bd = true) :
    an * rd (an * bd + bn * ad) (ad * bd) ≤ rn (an * bd + bn * ad) (ad * bd) * ad := by
  have ka := (vfB_iff _ _).1 ha
  have kb := (vfB_iff _ _).1 hb
  have hD : 0 < ad * bd := Int.mul_pos (by omega) (by omega)
  have hc := cross (an * bd + bn * ad) (ad * bd)
  have hp := rd_pos (an * bd + bn * ad) (ad * bd) hD
  generalize rn (an * bd + bn * ad) (ad * bd) = on at *
  generalize rd (an * bd + bn * ad) (ad * bd) = od at *
  have h1 : 0 ≤ bn * ad * od := Int.mul_nonneg (Int.mul_nonneg (by omega) (by omega)) (by omega)
  apply Int.le_of_mul_le_mul_right (a := bd) _ (by omega)
  have e1 : on * ad * bd = on * (ad * bd) := by grind
  have e2 : (an * bd + bn * ad) * od = an * od * bd + bn * ad * od := by grind
  rw [e1, hc, e2]; omega
/-- SubFrac, then AddFrac: the fraction again. -/
theorem add_of_sub (an ad bn bd : Int) (ha : vfB an ad = true) (hb : vfB bn bd = true) (_h : redB (an * bd - bn * ad) (ad * bd) = true) :
    rn (rn (an * bd - bn * ad) (ad * bd) * bd + bn * rd (an * bd - bn * ad) (ad * bd)) (rd (an * bd - bn * ad) (ad * bd) * bd) = an ∧
    rd (rn (an * bd - bn * ad) (ad * bd) * bd + bn * rd (an * bd - bn * ad) (ad * bd)) (rd (an * bd - bn * ad) (ad * bd) * bd) = ad ∧
    redB (rn (an * bd - bn * ad) (ad * bd) * bd + bn * rd (an * bd - bn * ad) (ad * bd)) (rd (an * bd - bn * ad) (ad * bd) * bd) = true := by
  have ka := (vfB_iff _ _).1 ha
  have kb := (vfB_iff _ _).1 hb
  have hD : 0 < ad * bd := Int.mul_pos (by omega) (by omega)
  have hc := cross (an * bd - bn * ad) (ad * bd)
  have hp := rd_pos (an * bd - bn * ad) (ad * bd) hD
  generalize rn (an * bd - bn * ad) (ad * bd) = on at *
  generalize rd (an * bd - bn * ad) (ad * bd) = od at *
  refine red_eq _ _ _ _ (Int.mul_pos hp (by omega)) ha ?_
  have e1 : (on * bd + bn * od) * ad = on * (ad * bd) + bn * od * ad := by grind
  rw [e1, hc]; grind
/-- MulFrac by 1 over 1. -/
theorem mul_one_red (an ad : Int) (ha : vfB an ad = true) : rn (an * 1) (ad * 1) = an ∧ rd (an * 1) (ad * 1) = ad ∧ redB (an * 1) (ad * 1) = true := by
  rw [Int.mul_one, Int.mul_one]; exact red_self an ad ha
theorem mul_le_left (an ad bn bd : Int) (ha : vfB an ad = true) (hb : vfB bn bd = true) :
    rn (an * bn) (ad * bd) * ad ≤ an * rd (an * bn) (ad * bd) := by
  have ka := (vfB_iff _ _).1 ha
  have kb := (vfB_iff _ _).1 hb
  have hD : 0 < ad * bd := Int.mul_pos (by omega) (by omega)
  have hc := cross (an * bn) (ad * bd)
  have hp := rd_pos (an * bn) (ad * bd) hD
  generalize rn (an * bn) (ad * bd) = on at *
  generalize rd (an * bn) (ad * bd) = od at *
  apply Int.le_of_mul_le_mul_right (a := bd) _ (by omega)
  have e1 : on * ad * bd = on * (ad * bd) := by grind
  have e2 : an * bn * od = (an * od) * bn := by grind
  rw [e1, hc, e2]
  exact Int.mul_le_mul_of_nonneg_left kb.2.2.2.1 (Int.mul_nonneg (by omega) (by omega))
/-- 1 less a fraction. -/
theorem one_less (n d : Int) (h : vfB n d = true) : vfB (d - n) d = true ∧ rn (1 * d - n * 1) (1 * d) = d - n ∧ rd (1 * d - n * 1) (1 * d) = d ∧ redB (1 * d - n * 1) (1 * d) = true := by
  have k := (vfB_iff _ _).1 h
  have hv : vfB (d - n) d = true := by
    rw [vfB_iff]
    exact ⟨k.1, k.2.1, by omega, by omega, by rw [Int.gcd_sub_left_left_of_dvd n (Int.dvd_refl d)]; exact k.2.2.2.2⟩
  rw [Int.one_mul, Int.mul_one]
  exact ⟨hv, red_self _ _ hv⟩
theorem parts (n f d : Int) (hd : 0 < d) : n * f / d + n * (d - f) / d ≤ n ∧ n - 1 ≤ n * f / d + n * (d - f) / d ∧ (n * f / d + n * (d - f) / d = n ↔ n * f % d = 0) := by
  have e : n * (d - f) = n * d - n * f := Int.mul_sub ..
  rw [e]
  generalize n * f = x
  have h1 := Int.mul_ediv_add_emod x d
  have h2 := Int.mul_ediv_add_emod (n * d - x) d
  have b1 := Int.emod_nonneg x (show d ≠ 0 by omega)
  have b2 := Int.emod_lt_of_pos x hd
  have c1 := Int.emod_nonneg (n * d - x) (show d ≠ 0 by omega)
  have c2 := Int.emod_lt_of_pos (n * d - x) hd
  generalize x / d = q at *
  generalize (n * d - x) / d = p at *
  generalize x % d = r at *
  generalize (n * d - x) % d = s at *
  have h3 : d * (n - q - p) = r + s := by grind
  have l1 : 0 ≤ n - q - p := by
    apply Int.nonneg_of_mul_nonneg_right (b := n - q - p) (a := d) _ hd
    omega
  have l2 : n - q - p < 2 := by
    apply Int.lt_of_mul_lt_mul_left (a := d) _ (by omega)
    omega
  refine ⟨by omega, by omega, ?_, ?_⟩
  · intro h
    have : n - q - p = 0 := by omega
    rw [this] at h3
    omega
  · intro h
    have : n - q - p = 0 := by
      by_cases hz : n - q - p = 1
      · rw [hz] at h3; omega
      · omega
    omega
/-- what is returned of a reduced fraction: the number if there is one, else 0 -/
def qn (b : Bool) (x : Int) : Int := if b then x else 0
theorem qn_true (x : Int) : qn true x = x := rfl
theorem qn_false (x : Int) : qn false x = 0 := rfl
theorem redB_no {n d : Int} (h : ¬ (0 ≤ n ∧ n ≤ d)) : redB n d = false := by
  unfold redB; rw [Bool.eq_false_iff]; intro k; simp at k; omega
theorem redB_den {n d : Int} (h : 0 ≤ n ∧ n ≤ d) : redB n d = decide (rd n d ≤ 10000) := by
  unfold redB; simp [h.1, h.2]
theorem rd_le (n d : Int) (hd : 0 < d) : rd n d ≤ d := Int.ediv_le_self _ (by omega)
theorem rn_le (n d : Int) (hn : 0 ≤ n) : 0 ≤ rn n d ∧ rn n d ≤ n := ⟨Int.ediv_nonneg hn (by omega), Int.ediv_le_self _ hn⟩
theorem rn_bd (n d : Int) (hn : 0 ≤ n) (hnd : n ≤ d) (hd : 0 < d) : 0 ≤ rn n d ∧ rn n d ≤ rd n d :=
  ⟨(rn_le n d hn).1, Int.ediv_le_ediv (gcd_pos n d hd) hnd⟩
/-- the reduced fraction is valid exactly if redB says so -/
theorem vfB_red (n d : Int) (hn : 0 ≤ n) (hd : 0 < d) : vfB (rn n d) (rd n d) = redB n d := by
  cases h : redB n d with
  | true => exact red_valid n d hd h
  | false =>
    rw [Bool.eq_false_iff]
    intro k
    have kk := (vfB_iff _ _).1 k
    have hg := gcd_pos n d hd
    have h1 := rn_mul n d
    have h2 := rd_mul n d
    have : n ≤ d := by
      have h3 := Int.mul_le_mul_of_nonneg_right kk.2.2.2.1 (Int.le_of_lt hg)
      rw [h1, h2] at h3
      exact h3
    rw [redB_den ⟨hn, this⟩] at h
    simp at h
    omega
/-- -1, 0 or 1 -/
def cmpI (x y : Int) : Int := if x < y then -1 else if y < x then 1 else 0
theorem cmpI_lt {x y : Int} (h : x < y) : cmpI x y = -1 := by unfold cmpI; rw [if_pos h]
theorem cmpI_gt {x y : Int} (h : y < x) : cmpI x y = 1 := by unfold cmpI; rw [if_neg (by omega), if_pos h]
theorem cmpI_eq {x y : Int} (h : x = y) : cmpI x y = 0 := by unfold cmpI; rw [if_neg (by omega), if_neg (by omega)]
theorem cmpI_nlt {x y : Int} (h : ¬ x < y) : (cmpI x y < 0) = False := by
  rw [eq_iff_iff, iff_false]
  unfold cmpI
  rw [if_neg h]
  split <;> omega
def cmpF (an ad bn bd : Int) : Int := if vfB an ad && vfB bn bd then cmpI (an * bd) (bn * ad) else 0
theorem cmpF_no1 {an ad : Int} (bn bd : Int) (h : vfB an ad = false) : cmpF an ad bn bd = 0 := by unfold cmpF; rw [h]; rfl
theorem cmpF_no2 {bn bd : Int} (an ad : Int) (h : vfB bn bd = false) : cmpF an ad bn bd = 0 := by unfold cmpF; rw [h, Bool.and_false]; rfl
theorem cmpF_yes {an ad bn bd : Int} (ha : vfB an ad = true) (hb : vfB bn bd = true) : cmpF an ad bn bd = cmpI (an * bd) (bn * ad) := by unfold cmpF; rw [ha, hb]; rfl
/-- a denominator that MakeFrac takes -/
def mkB (d : Int) : Bool := decide (1 ≤ d) && decide (d ≤ 1000000)
theorem mkB_no {d : Int} (h : d < 1 ∨ 1000000 < d) : mkB d = false := by unfold mkB; simp; omega
theorem mkB_yes {d : Int} (h : 1 ≤ d ∧ d ≤ 1000000) : mkB d = true := by unfold mkB; simp; omega
theorem mul_bd2 {x y : Int} (_hx : 0 ≤ x) (hx' : x ≤ 1000000) (hy : 0 ≤ y) (hy' : y ≤ 10000) : x * y ≤ 10000000000 :=
  Int.le_trans (Int.mul_le_mul hx' hy' hy (by omega)) (by decide)
/-- a part of a number, -1 if there is none -/
def partI (n x d : Int) : Int := if decide (0 ≤ n) && decide (n ≤ 1000000) && vfB x d then n * x / d else -1
theorem partI_no1 {n : Int} (x d : Int) (h : n < 0 ∨ 1000000 < n) : partI n x d = -1 := by
  unfold partI; rw [if_neg (by simp; omega)]
theorem partI_no2 {x d : Int} (n : Int) (h : vfB x d = false) : partI n x d = -1 := by unfold partI; rw [h]; simp
theorem partI_yes {n x d : Int} (hn : 0 ≤ n ∧ n ≤ 1000000) (h : vfB x d = true) : partI n x d = n * x / d := by
  unfold partI; rw [if_pos (by simp [h, hn.1, hn.2])]
theorem qn_bd {x K : Int} (b : Bool) (h0 : 0 ≤ x) (h1 : x ≤ K) : 0 ≤ qn b x ∧ qn b x ≤ K := by
  unfold qn; split <;> omega
theorem red_bd {u d : Int} (b : Bool) (hu : 0 ≤ u) (hud : u ≤ d) (hd : 1 ≤ d) (hd' : d ≤ 1000000) : (0 ≤ qn b (rn u d) ∧ qn b (rn u d) ≤ 1000000) ∧ (0 ≤ qn b (rd u d) ∧ qn b (rd u d) ≤ 1000000) := by
  have h1 := rn_le u d hu
  have h2 := rd_le u d (by omega)
  have h3 := rd_pos u d (by omega)
  exact ⟨qn_bd b (by omega) (by omega), qn_bd b (by omega) (by omega)⟩
end Wsh
