/- Contracts and facts of functions of this program, in build order. Conditions: those stated in each. -/
import Derived.Laws.Concat
import Derived.Laws.Strings2
namespace Go.Proofs.Ythagafkjlecagaa

def ofDig (d : Nat) : UInt8 := UInt8.ofNat (48 + d)
/-- the decimal text of a number -/
def decL (n : Nat) : List UInt8 := if n < 10 then [ofDig n] else decL (n / 10) ++ [ofDig (n % 10)]
termination_by n
decreasing_by omega
theorem decL_lt {n : Nat} (h : n < 10) : decL n = [ofDig n] := by unfold decL; rw [if_pos h]
theorem decL_ge {n : Nat} (h : ¬ n < 10) : decL n = decL (n / 10) ++ [ofDig (n % 10)] := by
  conv => lhs; unfold decL
  rw [if_neg h]
def isDig (b : UInt8) : Bool := decide (48 ≤ b.toNat) && decide (b.toNat ≤ 57)
theorem isDig_iff (b : UInt8) : isDig b = true ↔ 48 ≤ b.toNat ∧ b.toNat ≤ 57 := by unfold isDig; simp
/-- the number of a text -/
def valL (l : List UInt8) : Nat := l.foldl (fun a b => 10 * a + (b.toNat - 48)) 0
theorem valL_snoc (l : List UInt8) (b : UInt8) : valL (l ++ [b]) = 10 * valL l + (b.toNat - 48) := by unfold valL; simp
theorem ofDig_toNat {d : Nat} (h : d < 10) : (ofDig d).toNat = 48 + d := by
  unfold ofDig; simp; omega
theorem isDig_of {d : Nat} (h : d < 10) : isDig (ofDig d) = true := by rw [isDig_iff, ofDig_toNat h]; omega
theorem ofDig_of {b : UInt8} (h : isDig b = true) : ofDig (b.toNat - 48) = b := by
  rw [isDig_iff] at h
  apply UInt8.toNat_inj.1
  rw [ofDig_toNat (by omega)]; omega
theorem dec_facts : ∀ k n : Nat, n ≤ k → valL (decL n) = n ∧ (decL n).all isDig = true ∧ decL n ≠ [] ∧ (1 ≤ n → (decL n).head? ≠ some 48) := by
  intro k
  induction k with
  | zero =>
    intro n h
    have e : n = 0 := by omega
    subst e
    rw [decL_lt (by omega)]
    exact ⟨rfl, rfl, by simp, fun h => by omega⟩
  | succ k ih =>
    intro n h
    by_cases h10 : n < 10
    · rw [decL_lt h10]
      refine ⟨?_, ?_, by simp, fun h1 e => ?_⟩
      · have := valL_snoc [] (ofDig n)
        rw [List.nil_append] at this
        rw [this, ofDig_toNat h10]
        show 10 * 0 + _ = _
        omega
      · simp [isDig_of h10]
      · simp at e
        have := congrArg UInt8.toNat e
        rw [ofDig_toNat h10] at this
        have e2 : (48 : UInt8).toNat = 48 := rfl
        omega
    · obtain ⟨a, b, c, d⟩ := ih (n / 10) (by omega)
      rw [decL_ge h10]
      refine ⟨?_, ?_, by simp, fun _ e => d (by omega) ?_⟩
      · rw [valL_snoc, a, ofDig_toNat (by omega)]; omega
      · rw [List.all_append, b, List.all_cons, isDig_of (Nat.mod_lt _ (by omega))]; rfl
      · cases hd : decL (n / 10) with
        | nil => exact absurd hd c
        | cons x t => rw [hd] at e; exact e
theorem val_dec (n : Nat) : valL (decL n) = n := (dec_facts n n (Nat.le_refl _)).1
theorem dig_dec (n : Nat) : (decL n).all isDig = true := (dec_facts n n (Nat.le_refl _)).2.1
theorem dec_ne (n : Nat) : decL n ≠ [] := (dec_facts n n (Nat.le_refl _)).2.2.1
theorem head_dec {n : Nat} (h : 1 ≤ n) : (decL n).head? ≠ some 48 := (dec_facts n n (Nat.le_refl _)).2.2.2 h
theorem dec_len : ∀ k n : Nat, n < 10 ^ (k + 1) → (decL n).length ≤ k + 1 := by
  intro k
  induction k with
  | zero => intro n h; rw [decL_lt (by simpa using h)]; simp
  | succ k ih =>
    intro n h
    by_cases h10 : n < 10
    · rw [decL_lt h10]; simp
    · rw [decL_ge h10, List.length_append]
      have h2 : n / 10 < 10 ^ (k + 1) := by
        rw [Nat.div_lt_iff_lt_mul (by omega)]; rw [Nat.pow_succ] at h; exact h
      have := ih _ h2
      simp; omega
/-- a text of digits without a leading zero is the text of its number -/
theorem dec_of : ∀ (k : Nat) (l : List UInt8), l.length = k + 1 → l.all isDig = true → (l.head? ≠ some 48 → 1 ≤ valL l) ∧ ((l.length = 1 ∨ l.head? ≠ some 48) → decL (valL l) = l) := by
  intro k
  induction k with
  | zero =>
    intro l hl hd
    match l, hl with
    | [b], _ =>
      have hb : isDig b = true := by simpa using hd
      have hv : valL [b] = b.toNat - 48 := by have := valL_snoc [] b; rw [List.nil_append] at this; rw [this]; show 10 * 0 + _ = _; omega
      have h2 := (isDig_iff b).1 hb
      refine ⟨fun h => ?_, fun _ => ?_⟩
      · rw [hv]
        have h3 : b.toNat ≠ 48 := fun e => h (by
          have : b = 48 := UInt8.toNat_inj.1 (by rw [e]; rfl)
          rw [this]; rfl)
        omega
      · rw [hv, decL_lt (by omega), ofDig_of hb]
  | succ k ih =>
    intro l hl hd
    have hne : l ≠ [] := by intro e; rw [e] at hl; simp at hl
    obtain ⟨l', b, rfl⟩ : ∃ l' b, l = l' ++ [b] := ⟨l.dropLast, l.getLast hne, (List.dropLast_concat_getLast hne).symm⟩
    have hl' : l'.length = k + 1 := by simpa using hl
    rw [List.all_append, Bool.and_eq_true] at hd
    have hb : isDig b = true := by simpa using hd.2
    have h2 := (isDig_iff b).1 hb
    obtain ⟨i1, i2⟩ := ih l' hl' hd.1
    have hh : (l' ++ [b]).head? = l'.head? := by
      cases l' with
      | nil => simp at hl'
      | cons x t => rfl
    refine ⟨fun h => ?_, fun h => ?_⟩
    · rw [hh] at h
      rw [valL_snoc]
      have := i1 h
      omega
    · have h3 : l'.head? ≠ some 48 := by
        rcases h with h | h
        · rw [hl] at h; omega
        · rwa [hh] at h
      have h4 := i1 h3
      rw [valL_snoc, decL_ge (by omega), show (10 * valL l' + (b.toNat - 48)) / 10 = valL l' by omega, i2 (.inr h3), show (10 * valL l' + (b.toNat - 48)) % 10 = b.toNat - 48 by omega, ofDig_of hb]
/-- whether a text of digits is the text of its number -/
theorem dec_iff {l : List UInt8} (hne : l ≠ []) (hd : l.all isDig = true) : decL (valL l) = l ↔ (l.length = 1 ∨ l.head? ≠ some 48) := by
  have hp : 0 < l.length := List.length_pos_iff.2 hne
  refine ⟨fun h => ?_, (dec_of (l.length - 1) l (by omega) hd).2⟩
  by_cases hv : 1 ≤ valL l
  · right; have := head_dec hv; rwa [h] at this
  · left
    have e : valL l = 0 := by omega
    rw [e, decL_lt (by omega)] at h
    rw [← h]; rfl

/-- readNumber: the number below lim whose text is l, -1 if there is none -/
def rdI (lim : Nat) (l : List UInt8) : Int := if l.all isDig = true ∧ l ≠ [] ∧ decL (valL l) = l ∧ valL l < lim then (valL l : Int) else -1
theorem rd_yes {lim : Nat} {l : List UInt8} (h1 : l.all isDig = true) (h2 : l ≠ []) (h3 : decL (valL l) = l) (h4 : valL l < lim) : rdI lim l = (valL l : Int) := by unfold rdI; rw [if_pos ⟨h1, h2, h3, h4⟩]
theorem rd_no {lim : Nat} {l : List UInt8} (h : ¬ (l.all isDig = true ∧ l ≠ [] ∧ decL (valL l) = l ∧ valL l < lim)) : rdI lim l = -1 := by unfold rdI; rw [if_neg h]
theorem rd_bd (lim : Nat) (l : List UInt8) : -1 ≤ rdI lim l ∧ rdI lim l < (lim : Int) ∨ rdI lim l = -1 := by
  unfold rdI; split
  · left; omega
  · right; rfl
theorem rd_dec {lim n : Nat} (h : n < lim) : rdI lim (decL n) = n := by
  rw [rd_yes (dig_dec n) (dec_ne n) (by rw [val_dec]) (by rw [val_dec]; exact h), val_dec]
theorem rd_back {lim : Nat} {l : List UInt8} (h : 0 ≤ rdI lim l) : decL (rdI lim l).toNat = l ∧ (rdI lim l).toNat < lim := by
  unfold rdI at *
  split at h
  · next c => rw [if_pos c]; exact ⟨by simpa using c.2.2.1, by simpa using c.2.2.2⟩
  · omega
theorem val_take (l : List UInt8) (k : Nat) (h : k < l.length) : valL (l.take (k + 1)) = 10 * valL (l.take k) + ((l.getD k 0).toNat - 48) := by
  rw [List.take_succ_eq_append_getElem h, valL_snoc, List.getD_eq_getElem?_getD, List.getElem?_eq_getElem h]; rfl
theorem val_mono (l : List UInt8) : ∀ n k, k + n ≤ l.length → valL (l.take k) ≤ valL (l.take (k + n)) := by
  intro n
  induction n with
  | zero => intro k _; exact Nat.le_refl _
  | succ n ih =>
    intro k h
    have h1 := ih k (by omega)
    have h2 := val_take l (k + n) (by omega)
    rw [show k + (n + 1) = k + n + 1 by omega]
    omega
theorem val_le (l : List UInt8) {k : Nat} (h : k ≤ l.length) : valL (l.take k) ≤ valL l := by
  have := val_mono l (l.length - k) k (by omega)
  rwa [show k + (l.length - k) = l.length by omega, List.take_length] at this
/-- the first k bytes are digits -/
def digTo (l : List UInt8) (k : Nat) : Prop := ∀ j, j < k → 48 ≤ (l.getD j 0).toNat ∧ (l.getD j 0).toNat ≤ 57
theorem dig_all {l : List UInt8} (h : digTo l l.length) : l.all isDig = true := by
  rw [List.all_eq_true]
  intro b hb
  obtain ⟨i, hi, rfl⟩ := List.getElem_of_mem hb
  have := h i hi
  rw [List.getD_eq_getElem?_getD, List.getElem?_eq_getElem hi] at this
  rw [isDig_iff]; exact this
theorem dig_not {l : List UInt8} {k : Nat} (hk : k < l.length) (h : ¬ (48 ≤ (l.getD k 0).toNat ∧ (l.getD k 0).toNat ≤ 57)) (lim : Nat) : rdI lim l = -1 := by
  apply rd_no
  rintro ⟨h1, _⟩
  rw [List.all_eq_true] at h1
  have := h1 _ (List.getElem_mem hk)
  rw [isDig_iff] at this
  rw [List.getD_eq_getElem?_getD, List.getElem?_eq_getElem hk] at h
  exact h this
theorem val_bd {l : List UInt8} : ∀ k, k ≤ l.length → digTo l k → valL (l.take k) < 10 ^ k := by
  intro k
  induction k with
  | zero => intro _ _; simp [valL]
  | succ k ih =>
    intro hk hd
    have h1 := ih (by omega) (fun j hj => hd j (by omega))
    have h2 := hd k (by omega)
    rw [val_take l k (by omega), Nat.pow_succ]
    omega
end Go.Proofs.Ythagafkjlecagaa
namespace Wsh
/-- valid fraction, as a Bool -/
def vfB (n d : Int) : Bool := decide (1 ≤ d) && decide (d ≤ 10000) && decide (0 ≤ n) && decide (n ≤ d) && decide (Int.gcd n d = 1)
theorem vfB_iff (n d : Int) : vfB n d = true ↔ (1 ≤ d ∧ d ≤ 10000 ∧ 0 ≤ n ∧ n ≤ d ∧ Int.gcd n d = 1) := by
  unfold vfB; simp [and_assoc]
def rn (n d : Int) : Int := n / (Int.gcd n d : Int)
def rd (n d : Int) : Int := d / (Int.gcd n d : Int)
def redB (n d : Int) : Bool := decide (0 ≤ n) && decide (n ≤ d) && decide (rd n d ≤ 10000)

theorem gcd_step (a b : Int) (ha : 0 ≤ a) (hb : 0 < b) : Int.gcd b (a % b) = Int.gcd a b := by
  rw [Int.gcd_comm a b]
  obtain ⟨n, rfl⟩ := Int.eq_ofNat_of_zero_le ha
  obtain ⟨m, rfl⟩ := Int.eq_ofNat_of_zero_le (Int.le_of_lt hb)
  rw [← Int.natCast_emod]
  simp only [Int.gcd_natCast_natCast]
  rw [Nat.gcd_comm m n, Nat.gcd_comm m (n % m), ← Nat.gcd_rec, Nat.gcd_comm]

theorem gcd_pos (n d : Int) (hd : 0 < d) : 0 < (Int.gcd n d : Int) := by
  have : Int.gcd n d ≠ 0 := by
    intro h
    have := Int.gcd_eq_zero_iff.1 h
    omega
  omega
theorem rn_mul (n d : Int) : rn n d * (Int.gcd n d : Int) = n := Int.ediv_mul_cancel (Int.gcd_dvd_left ..)
theorem rd_mul (n d : Int) : rd n d * (Int.gcd n d : Int) = d := Int.ediv_mul_cancel (Int.gcd_dvd_right ..)
theorem rd_pos (n d : Int) (hd : 0 < d) : 0 < rd n d := by
  have h := rd_mul n d
  have hg := gcd_pos n d hd
  apply Int.pos_of_mul_pos_left _ hg
  rw [h]; exact hd
theorem mulx (x y g : Int) : x * (y * g) = x * g * y := by grind
theorem cross (n d : Int) : rn n d * d = n * rd n d := by
  have h1 := rn_mul n d
  have h2 := rd_mul n d
  have h3 := mulx (rn n d) (rd n d) (Int.gcd n d : Int)
  rw [h1, h2] at h3
  exact h3
theorem dvd_cancel {b a e : Int} (h : b ∣ a * e) (g : Int.gcd a b = 1) : b ∣ e := by
  have := (Int.dvd_gcd_mul_iff_dvd_mul (k := b) (n := a) (m := e)).2 h
  rw [Int.gcd_comm, g] at this
  simpa using this
theorem gcd_red (n d : Int) (hd : 0 < d) : Int.gcd (rn n d) (rd n d) = 1 := by
  unfold rn rd
  exact Int.gcd_ediv_gcd_ediv_gcd (by have := gcd_pos n d hd; omega)
theorem red_valid (n d : Int) (hd : 0 < d) (h : redB n d = true) : vfB (rn n d) (rd n d) = true := by
  unfold redB at h
  simp only [Bool.and_eq_true, decide_eq_true_eq] at h
  obtain ⟨⟨h1, h2⟩, h3⟩ := h
  have hg := gcd_pos n d hd
  have hp := rd_pos n d hd
  rw [vfB_iff]
  refine ⟨by omega, h3, ?_, ?_, gcd_red n d hd⟩
  · exact Int.ediv_nonneg h1 (by omega)
  · exact Int.ediv_le_ediv hg h2
/-- a number is its own reduced fraction if it is valid -/
theorem red_self (n d : Int) (h : vfB n d = true) : rn n d = n ∧ rd n d = d ∧ redB n d = true := by
  rw [vfB_iff] at h
  obtain ⟨h1, h2, h3, h4, h5⟩ := h
  have e1 : rn n d = n := by unfold rn; rw [h5]; simp
  have e2 : rd n d = d := by unfold rd; rw [h5]; simp
  refine ⟨e1, e2, ?_⟩
  unfold redB
  rw [e2]
  simp [h2, h3, h4]
theorem uniq (a b c e : Int) (h : vfB a b = true) (k : vfB c e = true) (hx : a * e = c * b) : a = c ∧ b = e := by
  rw [vfB_iff] at h k
  obtain ⟨h1, h2, h3, h4, h5⟩ := h
  obtain ⟨k1, k2, k3, k4, k5⟩ := k
  have d1 : b ∣ e := by
    have : b ∣ a * e := ⟨c, by rw [hx]; exact Int.mul_comm _ _⟩
    exact dvd_cancel this (h5)
  have d2 : e ∣ b := by
    have : e ∣ c * b := ⟨a, by rw [← hx]; exact Int.mul_comm _ _⟩
    exact dvd_cancel this (k5)
  have hbe : b = e := Int.dvd_antisymm (by omega) (by omega) d1 d2
  refine ⟨?_, hbe⟩
  subst hbe
  exact Int.eq_of_mul_eq_mul_right (by omega) hx
/-- the reduced fraction of two numbers is the valid one that is as great -/
theorem red_eq (n d a b : Int) (hd : 0 < d) (h : vfB a b = true) (hx : n * b = a * d) : rn n d = a ∧ rd n d = b ∧ redB n d = true := by
  have hb := (vfB_iff a b).1 h
  have hc := cross n d
  have hp := rd_pos n d hd
  have hg := gcd_red n d hd
  -- value: rn * b = a * rd
  have e : rn n d * b = a * rd n d := by
    apply Int.eq_of_mul_eq_mul_right (a := d) (by omega)
    have t1 : rn n d * b * d = (rn n d * d) * b := by grind
    have t2 : a * rd n d * d = (a * d) * rd n d := by grind
    rw [t1, t2, hc, ← hx]; grind
  have d1 : b ∣ rd n d := by
    have : b ∣ a * rd n d := ⟨rn n d, by rw [← e]; exact Int.mul_comm _ _⟩
    exact dvd_cancel this (hb.2.2.2.2)
  have d2 : rd n d ∣ b := by
    have : rd n d ∣ rn n d * b := ⟨a, by rw [e]; exact Int.mul_comm _ _⟩
    exact dvd_cancel this (hg)
  have hbe : rd n d = b := Int.dvd_antisymm (by omega) (by omega) d2 d1
  rw [hbe] at e
  have ha : rn n d = a := Int.eq_of_mul_eq_mul_right (by omega) e
  refine ⟨ha, hbe, ?_⟩
  unfold redB
  have hn : 0 ≤ n := by
    have := Int.mul_nonneg hb.2.2.1 (Int.le_of_lt hd)
    rw [← hx] at this
    exact Int.nonneg_of_mul_nonneg_left this (by omega)
  have hnd : n ≤ d := by
    have : a * d ≤ b * d := Int.mul_le_mul_of_nonneg_right hb.2.2.2.1 (by omega)
    rw [← hx, Int.mul_comm b d] at this
    exact Int.le_of_mul_le_mul_right this (by omega)
  simp [hn, hnd, hbe, hb.2.1]
theorem mul_bd {x y : Int} (hx : 0 ≤ x) (hx' : x ≤ 10000) (hy : 0 ≤ y) (hy' : y ≤ 10000) : 0 ≤ x * y ∧ x * y ≤ 100000000 :=
  ⟨Int.mul_nonneg hx hy, Int.le_trans (Int.mul_le_mul hx' hy' hy (by omega)) (by decide)⟩
theorem mul_pos1 {x y : Int} (hx : 1 ≤ x) (hy : 1 ≤ y) : 1 ≤ x * y := Int.mul_pos (by omega) (by omega)

/-- AddFrac, then SubFrac of the sum: the fraction again. -/
theorem sub_of_add (an ad bn bd : Int) (ha : vfB an ad = true) (hb : vfB bn bd = true) (_h : redB (an * bd + bn * ad) (ad * bd) = true) :
    rn (rn (an * bd + bn * ad) (ad * bd) * bd - bn * rd (an * bd + bn * ad) (ad * bd)) (rd (an * bd + bn * ad) (ad * bd) * bd) = an ∧
    rd (rn (an * bd + bn * ad) (ad * bd) * bd - bn * rd (an * bd + bn * ad) (ad * bd)) (rd (an * bd + bn * ad) (ad * bd) * bd) = ad ∧
    redB (rn (an * bd + bn * ad) (ad * bd) * bd - bn * rd (an * bd + bn * ad) (ad * bd)) (rd (an * bd + bn * ad) (ad * bd) * bd) = true := by
  have ka := (vfB_iff _ _).1 ha
  have kb := (vfB_iff _ _).1 hb
  have hD : 0 < ad * bd := Int.mul_pos (by omega) (by omega)
  have hc := cross (an * bd + bn * ad) (ad * bd)
  have hp := rd_pos (an * bd + bn * ad) (ad * bd) hD
  generalize rn (an * bd + bn * ad) (ad * bd) = on at *
  generalize rd (an * bd + bn * ad) (ad * bd) = od at *
  refine red_eq _ _ _ _ (Int.mul_pos hp (by omega)) ha ?_
  have e1 : (on * bd - bn * od) * ad = on * (ad * bd) - bn * od * ad := by grind
  rw [e1, hc]; grind
theorem add_ge (an ad bn bd : Int) (ha : vfB an ad = true) (hb : vfB bn bd = true) :
    an * rd (an * bd + bn * ad) (ad * bd) ≤ rn (an * bd + bn * ad) (ad * bd) * ad := by
  have ka := (vfB_iff _ _).1 ha
  have kb := (vfB_iff _ _).1 hb
  have hD : 0 < ad * bd := Int.mul_pos (by omega) (by omega)
  have hc := cross (an * bd + bn * ad) (ad * bd)
  have hp := rd_pos (an * bd + bn * ad) (ad * bd) hD
  generalize rn (an * bd + bn * ad) (ad * bd) = on at *
  generalize rd (an * bd + bn * ad) (ad * bd) = od at *
  have h1 : 0 ≤ bn * ad * od := Int.mul_nonneg (Int.mul_nonneg (by omega) (by omega)) (by omega)
  apply Int.le_of_mul_le_mul_right (a := bd) _ (by omega)
  have e1 : on * ad * bd = on * (ad * bd) := by grind
  have e2 : (an * bd + bn * ad) * od = an * od * bd + bn * ad * od := by grind
  rw [e1, hc, e2]; omega
/-- SubFrac, then AddFrac: the fraction again. -/
theorem add_of_sub (an ad bn bd : Int) (ha : vfB an ad = true) (hb : vfB bn bd = true) (_h : redB (an * bd - bn * ad) (ad * bd) = true) :
    rn (rn (an * bd - bn * ad) (ad * bd) * bd + bn * rd (an * bd - bn * ad) (ad * bd)) (rd (an * bd - bn * ad) (ad * bd) * bd) = an ∧
    rd (rn (an * bd - bn * ad) (ad * bd) * bd + bn * rd (an * bd - bn * ad) (ad * bd)) (rd (an * bd - bn * ad) (ad * bd) * bd) = ad ∧
    redB (rn (an * bd - bn * ad) (ad * bd) * bd + bn * rd (an * bd - bn * ad) (ad * bd)) (rd (an * bd - bn * ad) (ad * bd) * bd) = true := by
  have ka := (vfB_iff _ _).1 ha
  have kb := (vfB_iff _ _).1 hb
  have hD : 0 < ad * bd := Int.mul_pos (by omega) (by omega)
  have hc := cross (an * bd - bn * ad) (ad * bd)
  have hp := rd_pos (an * bd - bn * ad) (ad * bd) hD
  generalize rn (an * bd - bn * ad) (ad * bd) = on at *
  generalize rd (an * bd - bn * ad) (ad * bd) = od at *
  refine red_eq _ _ _ _ (Int.mul_pos hp (by omega)) ha ?_
  have e1 : (on * bd + bn * od) * ad = on * (ad * bd) + bn * od * ad := by grind
  rw [e1, hc]; grind
/-- MulFrac by 1 over 1. -/
theorem mul_one_red (an ad : Int) (ha : vfB an ad = true) : rn (an * 1) (ad * 1) = an ∧ rd (an * 1) (ad * 1) = ad ∧ redB (an * 1) (ad * 1) = true := by
  rw [Int.mul_one, Int.mul_one]; exact red_self an ad ha
theorem mul_le_left (an ad bn bd : Int) (ha : vfB an ad = true) (hb : vfB bn bd = true) :
    rn (an * bn) (ad * bd) * ad ≤ an * rd (an * bn) (ad * bd) := by
  have ka := (vfB_iff _ _).1 ha
  have kb := (vfB_iff _ _).1 hb
  have hD : 0 < ad * bd := Int.mul_pos (by omega) (by omega)
  have hc := cross (an * bn) (ad * bd)
  have hp := rd_pos (an * bn) (ad * bd) hD
  generalize rn (an * bn) (ad * bd) = on at *
  generalize rd (an * bn) (ad * bd) = od at *
  apply Int.le_of_mul_le_mul_right (a := bd) _ (by omega)
  have e1 : on * ad * bd = on * (ad * bd) := by grind
  have e2 : an * bn * od = (an * od) * bn := by grind
  rw [e1, hc, e2]
  exact Int.mul_le_mul_of_nonneg_left kb.2.2.2.1 (Int.mul_nonneg (by omega) (by omega))
/-- 1 less a fraction. -/
theorem one_less (n d : Int) (h : vfB n d = true) : vfB (d - n) d = true ∧ rn (1 * d - n * 1) (1 * d) = d - n ∧ rd (1 * d - n * 1) (1 * d) = d ∧ redB (1 * d - n * 1) (1 * d) = true := by
  have k := (vfB_iff _ _).1 h
  have hv : vfB (d - n) d = true := by
    rw [vfB_iff]
    exact ⟨k.1, k.2.1, by omega, by omega, by rw [Int.gcd_sub_left_left_of_dvd n (Int.dvd_refl d)]; exact k.2.2.2.2⟩
  rw [Int.one_mul, Int.mul_one]
  exact ⟨hv, red_self _ _ hv⟩
theorem parts (n f d : Int) (hd : 0 < d) : n * f / d + n * (d - f) / d ≤ n ∧ n - 1 ≤ n * f / d + n * (d - f) / d ∧ (n * f / d + n * (d - f) / d = n ↔ n * f % d = 0) := by
  have e : n * (d - f) = n * d - n * f := Int.mul_sub ..
  rw [e]
  generalize n * f = x
  have h1 := Int.mul_ediv_add_emod x d
  have h2 := Int.mul_ediv_add_emod (n * d - x) d
  have b1 := Int.emod_nonneg x (show d ≠ 0 by omega)
  have b2 := Int.emod_lt_of_pos x hd
  have c1 := Int.emod_nonneg (n * d - x) (show d ≠ 0 by omega)
  have c2 := Int.emod_lt_of_pos (n * d - x) hd
  generalize x / d = q at *
  generalize (n * d - x) / d = p at *
  generalize x % d = r at *
  generalize (n * d - x) % d = s at *
  have h3 : d * (n - q - p) = r + s := by grind
  have l1 : 0 ≤ n - q - p := by
    apply Int.nonneg_of_mul_nonneg_right (b := n - q - p) (a := d) _ hd
    omega
  have l2 : n - q - p < 2 := by
    apply Int.lt_of_mul_lt_mul_left (a := d) _ (by omega)
    omega
  refine ⟨by omega, by omega, ?_, ?_⟩
  · intro h
    have : n - q - p = 0 := by omega
    rw [this] at h3
    omega
  · intro h
    have : n - q - p = 0 := by
      by_cases hz : n - q - p = 1
      · rw [hz] at h3; omega
      · omega
    omega
/-- what is returned of a reduced fraction: the number if there is one, else 0 -/
def qn (b : Bool) (x : Int) : Int := if b then x else 0
theorem qn_true (x : Int) : qn true x = x := rfl
theorem qn_false (x : Int) : qn false x = 0 := rfl
theorem redB_no {n d : Int} (h : ¬ (0 ≤ n ∧ n ≤ d)) : redB n d = false := by
  unfold redB; rw [Bool.eq_false_iff]; intro k; simp at k; omega
theorem redB_den {n d : Int} (h : 0 ≤ n ∧ n ≤ d) : redB n d = decide (rd n d ≤ 10000) := by
  unfold redB; simp [h.1, h.2]
theorem rd_le (n d : Int) (hd : 0 < d) : rd n d ≤ d := Int.ediv_le_self _ (by omega)
theorem rn_le (n d : Int) (hn : 0 ≤ n) : 0 ≤ rn n d ∧ rn n d ≤ n := ⟨Int.ediv_nonneg hn (by omega), Int.ediv_le_self _ hn⟩
theorem rn_bd (n d : Int) (hn : 0 ≤ n) (hnd : n ≤ d) (hd : 0 < d) : 0 ≤ rn n d ∧ rn n d ≤ rd n d :=
  ⟨(rn_le n d hn).1, Int.ediv_le_ediv (gcd_pos n d hd) hnd⟩
/-- the reduced fraction is valid exactly if redB says so -/
theorem vfB_red (n d : Int) (hn : 0 ≤ n) (hd : 0 < d) : vfB (rn n d) (rd n d) = redB n d := by
  cases h : redB n d with
  | true => exact red_valid n d hd h
  | false =>
    rw [Bool.eq_false_iff]
    intro k
    have kk := (vfB_iff _ _).1 k
    have hg := gcd_pos n d hd
    have h1 := rn_mul n d
    have h2 := rd_mul n d
    have : n ≤ d := by
      have h3 := Int.mul_le_mul_of_nonneg_right kk.2.2.2.1 (Int.le_of_lt hg)
      rw [h1, h2] at h3
      exact h3
    rw [redB_den ⟨hn, this⟩] at h
    simp at h
    omega
/-- -1, 0 or 1 -/
def cmpI (x y : Int) : Int := if x < y then -1 else if y < x then 1 else 0
theorem cmpI_lt {x y : Int} (h : x < y) : cmpI x y = -1 := by unfold cmpI; rw [if_pos h]
theorem cmpI_gt {x y : Int} (h : y < x) : cmpI x y = 1 := by unfold cmpI; rw [if_neg (by omega), if_pos h]
theorem cmpI_eq {x y : Int} (h : x = y) : cmpI x y = 0 := by unfold cmpI; rw [if_neg (by omega), if_neg (by omega)]
theorem cmpI_nlt {x y : Int} (h : ¬ x < y) : (cmpI x y < 0) = False := by
  rw [eq_iff_iff, iff_false]
  unfold cmpI
  rw [if_neg h]
  split <;> omega
def cmpF (an ad bn bd : Int) : Int := if vfB an ad && vfB bn bd then cmpI (an * bd) (bn * ad) else 0
theorem cmpF_no1 {an ad : Int} (bn bd : Int) (h : vfB an ad = false) : cmpF an ad bn bd = 0 := by unfold cmpF; rw [h]; rfl
theorem cmpF_no2 {bn bd : Int} (an ad : Int) (h : vfB bn bd = false) : cmpF an ad bn bd = 0 := by unfold cmpF; rw [h, Bool.and_false]; rfl
theorem cmpF_yes {an ad bn bd : Int} (ha : vfB an ad = true) (hb : vfB bn bd = true) : cmpF an ad bn bd = cmpI (an * bd) (bn * ad) := by unfold cmpF; rw [ha, hb]; rfl
/-- a denominator that MakeFrac takes -/
def mkB (d : Int) : Bool := decide (1 ≤ d) && decide (d ≤ 1000000)
theorem mkB_no {d : Int} (h : d < 1 ∨ 1000000 < d) : mkB d = false := by unfold mkB; simp; omega
theorem mkB_yes {d : Int} (h : 1 ≤ d ∧ d ≤ 1000000) : mkB d = true := by unfold mkB; simp; omega
theorem mul_bd2 {x y : Int} (_hx : 0 ≤ x) (hx' : x ≤ 1000000) (hy : 0 ≤ y) (hy' : y ≤ 10000) : x * y ≤ 10000000000 :=
  Int.le_trans (Int.mul_le_mul hx' hy' hy (by omega)) (by decide)
/-- a part of a number, -1 if there is none -/
def partI (n x d : Int) : Int := if decide (0 ≤ n) && decide (n ≤ 1000000) && vfB x d then n * x / d else -1
theorem partI_no1 {n : Int} (x d : Int) (h : n < 0 ∨ 1000000 < n) : partI n x d = -1 := by
  unfold partI; rw [if_neg (by simp; omega)]
theorem partI_no2 {x d : Int} (n : Int) (h : vfB x d = false) : partI n x d = -1 := by unfold partI; rw [h]; simp
theorem partI_yes {n x d : Int} (hn : 0 ≤ n ∧ n ≤ 1000000) (h : vfB x d = true) : partI n x d = n * x / d := by
  unfold partI; rw [if_pos (by simp [h, hn.1, hn.2])]
theorem qn_bd {x K : Int} (b : Bool) (h0 : 0 ≤ x) (h1 : x ≤ K) : 0 ≤ qn b x ∧ qn b x ≤ K := by
  unfold qn; split <;> omega
theorem red_bd {u d : Int} (b : Bool) (hu : 0 ≤ u) (hud : u ≤ d) (hd : 1 ≤ d) (hd' : d ≤ 1000000) : (0 ≤ qn b (rn u d) ∧ qn b (rn u d) ≤ 1000000) ∧ (0 ≤ qn b (rd u d) ∧ qn b (rd u d) ≤ 1000000) := by
  have h1 := rn_le u d hu
  have h2 := rd_le u d (by omega)
  have h3 := rd_pos u d (by omega)
  exact ⟨qn_bd b (by omega) (by omega), qn_bd b (by omega) (by omega)⟩
end Wsh
namespace Go.Proofs.Ythagafkjlecagaa

/-- the text of some bytes -/
def txt (l : List UInt8) : ByteArray := ⟨l.toArray⟩
def digs : ByteArray := { data := #[48, 49, 50, 51, 52, 53, 54, 55, 56, 57] }
theorem digs_ext (d : Nat) (h : d < 10) : ({ data := #[48, 49, 50, 51, 52, 53, 54, 55, 56, 57] } : ByteArray).extract d (d + 1) = txt [ofDig d] := by
  rcases d with _ | _ | _ | _ | _ | _ | _ | _ | _ | _ | d
  all_goals first | omega | rfl
theorem txt_size (l : List UInt8) : (txt l).size = l.length := by show l.toArray.size = _; simp
theorem txt_list (l : List UInt8) : (txt l).data.toList = l := rfl
theorem txt_app (a b : List UInt8) : txt a ++ txt b = txt (a ++ b) := ByteArray.mk_append_mk a b
theorem txt_of (s : ByteArray) : txt s.data.toList = s := by
  obtain ⟨⟨l⟩⟩ := s; rfl
theorem txt_inj {a b : List UInt8} (h : txt a = txt b) : a = b := by
  have := congrArg (fun s : ByteArray => s.data.toList) h
  exact this
/-- what decimal has written so far -/
def DecI (n k : Nat) (l : List UInt8) : Prop := l.length ≤ (decL n).length ∧ ((k < 10 ∧ l = decL n) ∨ (10 ≤ k ∧ decL (k / 10) ++ l = decL n))
theorem decI_start (n : Nat) : DecI n n [ofDig (n % 10)] := by
  refine ⟨List.length_pos_iff.2 (dec_ne n), ?_⟩
  by_cases h : n < 10
  · left; exact ⟨h, by rw [decL_lt h, Nat.mod_eq_of_lt h]⟩
  · right; exact ⟨by omega, (decL_ge h).symm⟩
theorem decI_step {n k : Nat} {l : List UInt8} (h : DecI n k l) (hk : 10 ≤ k) : DecI n (k / 10) (ofDig (k / 10 % 10) :: l) := by
  obtain ⟨_, h | ⟨_, h⟩⟩ := h
  · omega
  · have e : ∀ x : List UInt8, x ++ ofDig (k / 10 % 10) :: l = (x ++ [ofDig (k / 10 % 10)]) ++ l := fun x => by simp
    by_cases h1 : k / 10 < 10
    · have e2 : decL n = ofDig (k / 10 % 10) :: l := by rw [← h, decL_lt h1, Nat.mod_eq_of_lt h1]; rfl
      exact ⟨by rw [e2]; exact Nat.le_refl _, .inl ⟨h1, e2.symm⟩⟩
    · have e2 : decL (k / 10 / 10) ++ ofDig (k / 10 % 10) :: l = decL n := by rw [e, ← decL_ge h1, h]
      exact ⟨by rw [← e2]; simp, .inr ⟨by omega, e2⟩⟩

/-- byte k of a text, as a number -/
def bt (s : ByteArray) (k : Nat) : Int := ((s.data.toList.getD k 0).toNat : Int)
theorem bt_len (s : ByteArray) : s.data.toList.length = s.size := by simp
theorem get_bt (s : ByteArray) : ∀ (n : Nat) (h : n < s.size), ((s[n]'h).toNat : Int) = bt s n := fun n h => by
  unfold bt
  rw [List.getD_eq_getElem?_getD, List.getElem?_eq_getElem (by rw [bt_len]; exact h)]
  rfl
theorem bt_bd (s : ByteArray) (k : Nat) : 0 ≤ bt s k ∧ bt s k ≤ 255 := by
  unfold bt
  have := (s.data.toList.getD k 0).toNat_lt
  omega
/-- the place of the first byte c, -1 if there is none -/
def idxI (c : Nat) (s : ByteArray) : Int := if s.data.toList.findIdx (fun b => b.toNat == c) < s.size then (s.data.toList.findIdx (fun b => b.toNat == c) : Int) else -1
theorem find_is {c : Nat} {s : ByteArray} {k : Nat} (hk : k < s.size) (h : bt s k = c) (hb : ∀ j, j < k → bt s j ≠ c) : s.data.toList.findIdx (fun b => b.toNat == c) = k := by
  have hk' : k < s.data.toList.length := by rw [bt_len]; exact hk
  rw [List.findIdx_eq hk']
  refine ⟨?_, fun j hj => ?_⟩
  · unfold bt at h
    rw [List.getD_eq_getElem?_getD, List.getElem?_eq_getElem hk'] at h
    simp at h ⊢; omega
  · have := hb j hj
    unfold bt at this
    rw [List.getD_eq_getElem?_getD, List.getElem?_eq_getElem (by omega)] at this
    simp at this ⊢; omega
theorem find_none {c : Nat} {s : ByteArray} (hb : ∀ j, j < s.size → bt s j ≠ c) : s.data.toList.findIdx (fun b => b.toNat == c) = s.size := by
  rw [← bt_len, List.findIdx_eq_length]
  intro b hm
  obtain ⟨i, hi, rfl⟩ := List.getElem_of_mem hm
  have := hb i (by rw [← bt_len]; exact hi)
  unfold bt at this
  rw [List.getD_eq_getElem?_getD, List.getElem?_eq_getElem hi] at this
  simp at this ⊢; omega
theorem idx_is {c : Nat} {s : ByteArray} {k : Nat} (hk : k < s.size) (h : bt s k = c) (hb : ∀ j, j < k → bt s j ≠ c) : idxI c s = k := by
  unfold idxI; rw [find_is hk h hb, if_pos hk]
theorem idx_none {c : Nat} {s : ByteArray} (hb : ∀ j, j < s.size → bt s j ≠ c) : idxI c s = -1 := by
  unfold idxI; rw [find_none hb, if_neg (by omega)]
/-- a text has byte c or not -/
theorem idx_or (c : Nat) (s : ByteArray) : (∃ k, k < s.size ∧ bt s k = c ∧ (∀ j, j < k → bt s j ≠ c) ∧ idxI c s = k) ∨ ((∀ j, j < s.size → bt s j ≠ c) ∧ idxI c s = -1) := by
  have key : ∀ n, n ≤ s.size → (∃ k, k < n ∧ bt s k = c ∧ ∀ j, j < k → bt s j ≠ c) ∨ ∀ j, j < n → bt s j ≠ c := by
    intro n
    induction n with
    | zero => intro _; right; intro j hj; omega
    | succ n ih =>
      intro hn
      rcases ih (by omega) with ⟨k, hk, h1, h2⟩ | h
      · exact .inl ⟨k, by omega, h1, h2⟩
      · by_cases hc : bt s n = c
        · exact .inl ⟨n, by omega, hc, h⟩
        · right; intro j hj
          by_cases e : j = n
          · subst e; exact hc
          · exact h j (by omega)
  rcases key s.size (Nat.le_refl _) with ⟨k, hk, h1, h2⟩ | h
  · exact .inl ⟨k, hk, h1, h2, idx_is hk h1 h2⟩
  · exact .inr ⟨h, idx_none h⟩

/-- the parts of the first k bytes between the bytes c, and where the last one begins -/
def cutTo (c : Int) (s : ByteArray) : Nat → List ByteArray × Nat
  | 0 => ([], 0)
  | k + 1 => if bt s k = c then ((cutTo c s k).1 ++ [s.extract (cutTo c s k).2 k], k + 1) else cutTo c s k
theorem cutTo_hit {c : Int} {s : ByteArray} {k : Nat} (h : bt s k = c) : cutTo c s (k + 1) = ((cutTo c s k).1 ++ [s.extract (cutTo c s k).2 k], k + 1) := by
  show (if _ then _ else _) = _; rw [if_pos h]
theorem cutTo_miss {c : Int} {s : ByteArray} {k : Nat} (h : ¬ bt s k = c) : cutTo c s (k + 1) = cutTo c s k := by
  show (if _ then _ else _) = _; rw [if_neg h]
theorem cutTo_bd (c : Int) (s : ByteArray) : ∀ k, (cutTo c s k).2 ≤ k ∧ (cutTo c s k).1.length ≤ k := by
  intro k
  induction k with
  | zero => exact ⟨Nat.le_refl _, Nat.le_refl _⟩
  | succ k ih =>
    by_cases h : bt s k = c
    · rw [cutTo_hit h]; simp; omega
    · rw [cutTo_miss h]; omega
/-- all parts -/
def cutS (c : Int) (s : ByteArray) : List ByteArray := (cutTo c s s.size).1 ++ [s.extract (cutTo c s s.size).2 s.size]
theorem cut_quiet {c : Int} {s : ByteArray} : ∀ (n k : Nat), (∀ j, k ≤ j → j < k + n → bt s j ≠ c) → cutTo c s (k + n) = cutTo c s k := by
  intro n
  induction n with
  | zero => intro k _; rfl
  | succ n ih =>
    intro k h
    rw [show k + (n + 1) = k + n + 1 by omega, cutTo_miss (h (k + n) (by omega) (by omega)), ih k (fun j h1 h2 => h j h1 (by omega))]
theorem cut_none {c : Int} {s : ByteArray} (h : ∀ j, j < s.size → bt s j ≠ c) : cutS c s = [s.extract 0 s.size] := by
  have := cut_quiet (c := c) (s := s) s.size 0 (fun j _ h2 => h j (by omega))
  unfold cutS
  rw [Nat.zero_add] at this
  rw [this]; rfl
theorem cut_at {c : Int} {s : ByteArray} {k : Nat} (h1 : bt s k = c) (h2 : ∀ j, j < k → bt s j ≠ c) : cutTo c s (k + 1) = ([s.extract 0 k], k + 1) := by
  have := cut_quiet (c := c) (s := s) k 0 (fun j _ h => h2 j (by omega))
  rw [Nat.zero_add] at this
  rw [cutTo_hit h1, this]; rfl
theorem cut_one {c : Int} {s : ByteArray} {k : Nat} (hk : k < s.size) (h1 : bt s k = c) (h2 : ∀ j, j < k → bt s j ≠ c) (h3 : ∀ j, k < j → j < s.size → bt s j ≠ c) : cutS c s = [s.extract 0 k, s.extract (k + 1) s.size] := by
  have := cut_quiet (c := c) (s := s) (s.size - (k + 1)) (k + 1) (fun j h h' => h3 j (by omega) (by omega))
  rw [show k + 1 + (s.size - (k + 1)) = s.size by omega, cut_at h1 h2] at this
  unfold cutS
  rw [this]; rfl
theorem cut_grows (c : Int) (s : ByteArray) : ∀ n k, (cutTo c s k).1.length ≤ (cutTo c s (k + n)).1.length := by
  intro n
  induction n with
  | zero => intro k; exact Nat.le_refl _
  | succ n ih =>
    intro k
    have := ih k
    rw [show k + (n + 1) = k + n + 1 by omega]
    by_cases h : bt s (k + n) = c
    · rw [cutTo_hit h]; simp; omega
    · rw [cutTo_miss h]; exact this
theorem cut_more {c : Int} {s : ByteArray} {k j : Nat} (h1 : bt s k = c) (h2 : ∀ j, j < k → bt s j ≠ c) (hj : k < j) (hjs : j < s.size) (h3 : bt s j = c) : 2 < (cutS c s).length := by
  have a := cut_grows c s (j - (k + 1)) (k + 1)
  rw [show k + 1 + (j - (k + 1)) = j by omega, cut_at h1 h2] at a
  have b : (cutTo c s (j + 1)).1.length = (cutTo c s j).1.length + 1 := by rw [cutTo_hit h3]; simp
  have d := cut_grows c s (s.size - (j + 1)) (j + 1)
  rw [show j + 1 + (s.size - (j + 1)) = s.size by omega] at d
  unfold cutS
  simp at a ⊢; omega

theorem ext_data (s : ByteArray) (a b : Nat) : (s.extract a b).data.toList = (s.data.toList.drop a).take (b - a) := by
  obtain ⟨⟨l⟩⟩ := s
  rw [ByteArray.extract_mk]
theorem bt_ext (s : ByteArray) (a b j : Nat) (h : a + j < b) : bt (s.extract a b) j = bt s (a + j) := by
  unfold bt
  rw [ext_data, List.getD_eq_getElem?_getD, List.getD_eq_getElem?_getD, List.getElem?_take_of_lt (by omega), List.getElem?_drop]
/-- the number of a text -/
def rdS (lim : Nat) (s : ByteArray) : Int := rdI lim s.data.toList
theorem rdS_bd (lim : Nat) (s : ByteArray) : -1 ≤ rdS lim s ∧ (rdS lim s < lim ∨ rdS lim s = -1) := by
  unfold rdS; have := rd_bd lim s.data.toList; omega
theorem rdS_not {lim : Nat} {s : ByteArray} {k : Nat} (hk : k < s.size) (h : bt s k < 48 ∨ 57 < bt s k) : rdS lim s = -1 := by
  unfold rdS
  refine dig_not (k := k) (by rw [bt_len]; exact hk) ?_ lim
  unfold bt at h; omega
theorem rd_lim (l : List UInt8) : rdI 10000000 l = rdI 1000000 l ∨ (1000000 ≤ rdI 10000000 l ∧ rdI 1000000 l = -1) := by
  unfold rdI
  by_cases h : l.all isDig = true ∧ l ≠ [] ∧ decL (valL l) = l
  · by_cases h1 : valL l < 1000000
    · left; rw [if_pos ⟨h.1, h.2.1, h.2.2, by omega⟩, if_pos ⟨h.1, h.2.1, h.2.2, h1⟩]
    · by_cases h2 : valL l < 10000000
      · right; rw [if_pos ⟨h.1, h.2.1, h.2.2, h2⟩, if_neg (fun c => h1 c.2.2.2)]; omega
      · left; rw [if_neg (fun c => h2 c.2.2.2), if_neg (fun c => h1 c.2.2.2)]
  · left; rw [if_neg (fun c => h ⟨c.1, c.2.1, c.2.2.1⟩), if_neg (fun c => h ⟨c.1, c.2.1, c.2.2.1⟩)]

/-- the number of the first k bytes -/
def vt (s : ByteArray) (k : Nat) : Nat := valL (s.data.toList.take k)
theorem vt_zero (s : ByteArray) : vt s 0 = 0 := by unfold vt; simp [valL]
theorem vt_succ {s : ByteArray} {k : Nat} (h : k < s.size) (h0 : 48 ≤ bt s k) : ((vt s (k + 1) : Nat) : Int) = (vt s k : Int) * 10 + (bt s k - 48) := by
  have := val_take s.data.toList k (by rw [bt_len]; exact h)
  unfold vt; unfold bt at h0 ⊢; omega
theorem vt_le {s : ByteArray} {k : Nat} (h : k ≤ s.size) : vt s k ≤ valL s.data.toList := val_le _ (by rw [bt_len]; exact h)
theorem vt_bd {s : ByteArray} {k : Nat} (h : k ≤ s.size) (hd : ∀ j, j < k → 48 ≤ bt s j ∧ bt s j ≤ 57) : vt s k < 10 ^ k :=
  val_bd k (by rw [bt_len]; exact h) (fun j hj => by have := hd j hj; unfold bt at this; omega)
theorem bt_head {s : ByteArray} (h : 0 < s.size) : s.data.toList.head? = some 48 ↔ bt s 0 = 48 := by
  unfold bt
  have hl : 0 < s.data.toList.length := by rw [bt_len]; exact h
  cases hc : s.data.toList with
  | nil => rw [hc] at hl; simp at hl
  | cons x t =>
    show some x = some 48 ↔ ((x.toNat : Nat) : Int) = 48
    constructor
    · intro e; injection e with e; subst e; rfl
    · intro e
      have : x = 48 := UInt8.toNat_inj.1 (by have e48 : (48 : UInt8).toNat = 48 := rfl; omega)
      rw [this]
theorem all_dig {s : ByteArray} (hd : ∀ j, j < s.size → 48 ≤ bt s j ∧ bt s j ≤ 57) : s.data.toList.all isDig = true :=
  dig_all (fun j hj => by have := hd j (by rw [← bt_len]; exact hj); unfold bt at this; omega)
theorem ne_nil {s : ByteArray} (h : 0 < s.size) : s.data.toList ≠ [] := by
  rw [← bt_len] at h; exact List.length_pos_iff.1 h
theorem rdS_empty (lim : Nat) {s : ByteArray} (h : s.size = 0) : rdS lim s = -1 :=
  rd_no (fun c => c.2.1 (List.length_eq_zero_iff.1 (by rw [bt_len]; exact h)))
theorem rdS_lead (lim : Nat) {s : ByteArray} (h : 1 < s.size) (h0 : bt s 0 = 48) : rdS lim s = -1 := by
  refine rd_no (fun c => ?_)
  have := (dec_iff c.2.1 c.1).1 c.2.2.1
  rw [bt_len] at this
  rcases this with h1 | h1
  · omega
  · exact h1 ((bt_head (by omega)).2 h0)
theorem rdS_long {s : ByteArray} (h : 7 < s.size) : rdS 10000000 s = -1 := by
  refine rd_no (fun c => ?_)
  have := dec_len 6 (valL s.data.toList) c.2.2.2
  rw [c.2.2.1, bt_len] at this
  omega
theorem rdS_big {lim : Nat} {s : ByteArray} {k : Nat} (h : k ≤ s.size) (hv : lim ≤ vt s k) : rdS lim s = -1 := by
  refine rd_no (fun c => ?_)
  have := vt_le h
  omega
theorem rdS_full {lim : Nat} {s : ByteArray} (h : 0 < s.size) (hd : ∀ j, j < s.size → 48 ≤ bt s j ∧ bt s j ≤ 57) (h0 : s.size = 1 ∨ bt s 0 ≠ 48) (hv : vt s s.size < lim) : rdS lim s = (vt s s.size : Int) := by
  have e : vt s s.size = valL s.data.toList := by unfold vt; rw [← bt_len, List.take_length]
  rw [e] at hv ⊢
  refine rd_yes (all_dig hd) (ne_nil h) ((dec_iff (ne_nil h) (all_dig hd)).2 ?_) hv
  rw [bt_len]
  rcases h0 with h0 | h0
  · exact .inl h0
  · exact .inr (fun c => h0 ((bt_head h).1 c))
/-- as the model reads: by the text of the number that it has read -/
theorem rdS_text {lim : Nat} {s : ByteArray} (h : 0 < s.size) (hd : ∀ j, j < s.size → 48 ≤ bt s j ∧ bt s j ≤ 57) (hv : vt s s.size < lim) :
    rdS lim s = if s.toList == (txt (decL (vt s s.size))).toList then (vt s s.size : Int) else -1 := by
  have e : vt s s.size = valL s.data.toList := by unfold vt; rw [← bt_len, List.take_length]
  rw [ByteArray.toList_eq, ByteArray.toList_eq, txt_list]
  rw [e] at hv ⊢
  split
  · next c => exact rd_yes (all_dig hd) (ne_nil h) (beq_iff_eq.1 c).symm hv
  · next c => exact rd_no (fun d => c (beq_iff_eq.2 d.2.2.1.symm))

/-- ParseFrac: whether there is one, and its numbers -/
def pnum (s : ByteArray) : Int := rdS 1000000 (s.extract 0 (idxI 47 s).toNat)
def pden (s : ByteArray) : Int := rdS 1000000 (s.extract ((idxI 47 s).toNat + 1) s.size)
def pok (s : ByteArray) : Bool := decide (0 ≤ idxI 47 s) && Wsh.vfB (pnum s) (pden s)
theorem vf_lim (a b : ByteArray) : Wsh.vfB (rdS 10000000 a) (rdS 10000000 b) = Wsh.vfB (rdS 1000000 a) (rdS 1000000 b) ∧ (Wsh.vfB (rdS 1000000 a) (rdS 1000000 b) = true → rdS 10000000 a = rdS 1000000 a ∧ rdS 10000000 b = rdS 1000000 b) := by
  have h1 := rd_lim a.data.toList
  have h2 := rd_lim b.data.toList
  unfold rdS
  rcases h1 with h1 | ⟨h1, h1'⟩
  · rcases h2 with h2 | ⟨h2, h2'⟩
    · rw [h1, h2]; exact ⟨rfl, fun _ => ⟨rfl, rfl⟩⟩
    · refine ⟨?_, fun h => ?_⟩
      · rw [Bool.eq_iff_iff, Wsh.vfB_iff, Wsh.vfB_iff]; constructor <;> intro h <;> omega
      · rw [Wsh.vfB_iff] at h; omega
  · refine ⟨?_, fun h => ?_⟩
    · rw [Bool.eq_iff_iff, Wsh.vfB_iff, Wsh.vfB_iff]; constructor <;> intro h <;> omega
    · rw [Wsh.vfB_iff] at h; omega
/-- the text of a fraction -/
def frT (n d : Int) : ByteArray := txt (decL n.toNat ++ 47 :: decL d.toNat)
/-- what was read is written back -/
theorem fr_back {s : ByteArray} (h : pok s = true) : frT (pnum s) (pden s) = s := by
  unfold pok at h
  rw [Bool.and_eq_true, decide_eq_true_eq, Wsh.vfB_iff] at h
  obtain ⟨h0, h1, h2, h3, h4, _⟩ := h
  rcases idx_or 47 s with ⟨k, hk, hb, _, hi⟩ | ⟨_, hi⟩
  · have e1 : (idxI 47 s).toNat = k := by rw [hi]; rfl
    have a := rd_back (lim := 1000000) (l := (s.extract 0 k).data.toList) (by unfold pnum at h3; rw [e1] at h3; exact h3)
    have b := rd_back (lim := 1000000) (l := (s.extract (k + 1) s.size).data.toList) (by unfold pden at h1; rw [e1] at h1; exact Int.le_trans (by omega) h1)
    unfold frT pnum pden
    rw [e1]
    unfold rdS
    rw [a.1, b.1, ext_data, ext_data]
    conv => rhs; rw [← txt_of s]
    congr 1
    have hk' : k < s.data.toList.length := by rw [bt_len]; exact hk
    have hm : (47 : UInt8) = s.data.toList[k] := by
      unfold bt at hb
      rw [List.getD_eq_getElem?_getD, List.getElem?_eq_getElem hk'] at hb
      apply UInt8.toNat_inj.1
      have hb' : ((s.data.toList[k]).toNat : Int) = ((47 : Nat) : Int) := hb
      have e47 : (47 : UInt8).toNat = 47 := rfl
      omega
    rw [List.drop_zero, Nat.sub_zero, hm, List.take_of_length_le (l := s.data.toList.drop (k + 1)) (by rw [List.length_drop, bt_len]; omega), ← List.drop_eq_getElem_cons hk', List.take_append_drop]
  · omega
theorem dig_ne {n j : Nat} (h : j < (decL n).length) : ((decL n)[j]).toNat ≠ 47 := by
  have := List.all_eq_true.1 (dig_dec n) _ (List.getElem_mem h)
  rw [isDig_iff] at this; omega
theorem frT_list (n d : Int) : (frT n d).data.toList = decL n.toNat ++ 47 :: decL d.toNat := rfl
theorem frT_size (n d : Int) : (frT n d).size = (decL n.toNat).length + 1 + (decL d.toNat).length := by
  rw [← bt_len, frT_list]; simp; omega
/-- what is written is read back -/
theorem fr_read {n d : Int} (h : Wsh.vfB n d = true) : pok (frT n d) = true ∧ pnum (frT n d) = n ∧ pden (frT n d) = d := by
  have h' := (Wsh.vfB_iff n d).1 h
  obtain ⟨h1, h2, h3, h4, _⟩ := h'
  have hs := frT_size n d
  have hi : idxI 47 (frT n d) = (decL n.toNat).length := by
    refine idx_is (by omega) ?_ (fun j hj => ?_)
    · unfold bt; rw [frT_list, List.getD_eq_getElem?_getD, List.getElem?_append_right (Nat.le_refl _)]; simp
    · unfold bt; rw [frT_list, List.getD_eq_getElem?_getD, List.getElem?_append_left hj, List.getElem?_eq_getElem hj]
      have := dig_ne hj
      simp; omega
  have e1 : (idxI 47 (frT n d)).toNat = (decL n.toNat).length := by rw [hi]; rfl
  have a : pnum (frT n d) = n := by
    unfold pnum rdS
    rw [e1, ext_data, frT_list, List.drop_zero, Nat.sub_zero, List.take_left, rd_dec (by omega)]; omega
  have b : pden (frT n d) = d := by
    unfold pden rdS
    rw [e1, ext_data, frT_list, List.drop_append, List.drop_eq_nil_of_le (by omega), List.nil_append, show (decL n.toNat).length + 1 - (decL n.toNat).length = 1 by omega]
    show rdI _ (List.take _ (decL d.toNat)) = d
    rw [List.take_of_length_le (by omega), rd_dec (by omega)]; omega
  refine ⟨?_, a, b⟩
  unfold pok
  rw [a, b, h, hi, decide_eq_true (by omega)]; rfl
end Go.Proofs.Ythagafkjlecagaa
namespace Go.Proofs.Ythagafkjlecagaa

/-- pieces with a byte between them -/
def joinL (c : UInt8) : List (List UInt8) → List UInt8
  | [] => []
  | [a] => a
  | a :: b :: r => a ++ c :: joinL c (b :: r)
theorem join_one (c : UInt8) (a : List UInt8) : joinL c [a] = a := rfl
theorem join_cons (c : UInt8) (a : List UInt8) {r : List (List UInt8)} (h : r ≠ []) : joinL c (a :: r) = a ++ c :: joinL c r := by
  cases r with
  | nil => exact absurd rfl h
  | cons b r => rfl
theorem join_snoc (c : UInt8) : ∀ (P : List (List UInt8)) (a : List UInt8), P ≠ [] → joinL c (P ++ [a]) = joinL c P ++ c :: a := by
  intro P
  induction P with
  | nil => intro a h; exact absurd rfl h
  | cons x t ih =>
    intro a _
    by_cases ht : t = []
    · subst ht; rfl
    · rw [List.cons_append, join_cons c x (by simp), join_cons c x ht, ih a ht]; simp
theorem join_last (c : UInt8) : ∀ (P : List (List UInt8)) (a b : List UInt8), joinL c (P ++ [a ++ b]) = joinL c (P ++ [a]) ++ b := by
  intro P
  induction P with
  | nil => intro a b; rfl
  | cons x t ih =>
    intro a b
    rw [List.cons_append, join_cons c x (by simp), List.cons_append, join_cons c x (by simp), ih a b]; simp
/-- what follows a first piece without the byte is known -/
theorem span_eq {c : UInt8} : ∀ {a b x y : List UInt8}, c ∉ a → c ∉ b → a ++ c :: x = b ++ c :: y → a = b ∧ x = y := by
  intro a
  induction a with
  | nil =>
    intro b x y _ hb h
    cases b with
    | nil => injection h with _ h; exact ⟨rfl, h⟩
    | cons z t => injection h with h1 _; exact absurd (by simp [h1]) hb
  | cons z t ih =>
    intro b x y ha hb h
    cases b with
    | nil => injection h with h1 _; exact absurd (by simp [h1]) ha
    | cons u s =>
      injection h with h1 h2
      obtain ⟨e1, e2⟩ := ih (fun m => ha (by simp [m])) (fun m => hb (by simp [m])) h2
      exact ⟨by rw [h1, e1], e2⟩
/-- pieces without the byte are known by what they are joined to -/
theorem join_inj {c : UInt8} : ∀ (P Q : List (List UInt8)), P ≠ [] → Q ≠ [] → (∀ a ∈ P, c ∉ a) → (∀ a ∈ Q, c ∉ a) → joinL c P = joinL c Q → P = Q := by
  intro P
  induction P with
  | nil => intro Q h; exact absurd rfl h
  | cons a t ih =>
    intro Q _ hq hP hQ h
    cases Q with
    | nil => exact absurd rfl hq
    | cons b s =>
      have ha := hP a (by simp)
      have hb := hQ b (by simp)
      by_cases ht : t = []
      · subst ht
        by_cases hs : s = []
        · subst hs; rw [join_one, join_one] at h; rw [h]
        · rw [join_one, join_cons c b hs] at h
          exact absurd (by rw [h]; simp) ha
      · by_cases hs : s = []
        · subst hs
          rw [join_one, join_cons c a ht] at h
          exact absurd (by rw [← h]; simp) hb
        · rw [join_cons c a ht, join_cons c b hs] at h
          obtain ⟨e1, e2⟩ := span_eq ha hb h
          rw [e1, ih s ht hs (fun x m => hP x (by simp [m])) (fun x m => hQ x (by simp [m])) e2]
/-- a part of a text, as bytes -/
def cutB (s : ByteArray) (a b : Nat) : List UInt8 := (s.extract a b).data.toList
theorem cutB_succ (s : ByteArray) {a k : Nat} (h : a ≤ k) (hk : k < s.size) : cutB s a (k + 1) = cutB s a k ++ [s.data.toList.getD k 0] := by
  unfold cutB
  rw [ext_data, ext_data, show k + 1 - a = (k - a) + 1 by omega]
  have hl : k - a < (s.data.toList.drop a).length := by rw [List.length_drop, bt_len]; omega
  rw [List.take_succ_eq_append_getElem hl, List.getElem_drop, List.getD_eq_getElem?_getD, List.getElem?_eq_getElem (by rw [bt_len]; exact hk)]
  simp [show a + (k - a) = k by omega]
theorem cutB_nil (s : ByteArray) (k : Nat) : cutB s k k = [] := by
  unfold cutB; rw [ext_data]; simp
theorem bt_is {s : ByteArray} {k : Nat} {c : UInt8} : bt s k = (c.toNat : Int) ↔ s.data.toList.getD k 0 = c := by
  unfold bt
  constructor
  · intro h; exact UInt8.toNat_inj.1 (by omega)
  · intro h; rw [h]
/-- the pieces so far, as bytes -/
def pcs (c : UInt8) (s : ByteArray) (k : Nat) : List (List UInt8) := (cutTo (c.toNat : Int) s k).1.map (fun x => x.data.toList) ++ [cutB s (cutTo (c.toNat : Int) s k).2 k]
theorem pcs_facts (c : UInt8) (s : ByteArray) : ∀ k, k ≤ s.size → joinL c (pcs c s k) = cutB s 0 k ∧ ∀ a ∈ pcs c s k, c ∉ a := by
  intro k
  induction k with
  | zero =>
    intro _
    show joinL c ([] ++ [cutB s 0 0]) = _ ∧ ∀ a ∈ ([] ++ [cutB s 0 0] : List (List UInt8)), c ∉ a
    refine ⟨rfl, fun a ha => ?_⟩
    rw [cutB_nil] at ha
    simp at ha; subst ha; simp
  | succ k ih =>
    intro hk
    obtain ⟨i1, i2⟩ := ih (by omega)
    have hb := (cutTo_bd (c.toNat : Int) s k).1
    have hz := cutB_succ s (a := 0) (Nat.zero_le k) (by omega)
    by_cases h : bt s k = (c.toNat : Int)
    · have e : pcs c s (k + 1) = pcs c s k ++ [[]] := by
        unfold pcs
        rw [cutTo_hit h]
        simp only [List.map_append, List.map_cons, List.map_nil, cutB_nil]
        rfl
      rw [e, join_snoc c _ _ (by unfold pcs; simp), i1, hz, bt_is.1 h]
      refine ⟨rfl, fun a ha => ?_⟩
      rcases List.mem_append.1 ha with ha | ha
      · exact i2 a ha
      · simp at ha; subst ha; simp
    · have e : pcs c s (k + 1) = (cutTo (c.toNat : Int) s k).1.map (fun x => x.data.toList) ++ [cutB s (cutTo (c.toNat : Int) s k).2 k ++ [s.data.toList.getD k 0]] := by
        unfold pcs
        rw [cutTo_miss h, cutB_succ s hb (by omega)]
      rw [e, join_last, hz, ← i1]
      refine ⟨rfl, fun a ha => ?_⟩
      rcases List.mem_append.1 ha with ha | ha
      · exact i2 a (by unfold pcs; simp [ha])
      · simp only [List.mem_singleton] at ha
        subst ha
        intro hc
        rcases List.mem_append.1 hc with hc | hc
        · exact i2 _ (by unfold pcs; simp) hc
        · simp only [List.mem_singleton] at hc
          exact h (bt_is.2 hc.symm)
/-- the pieces of a text, as bytes -/
theorem cutS_facts (c : UInt8) (s : ByteArray) : joinL c ((cutS (c.toNat : Int) s).map (fun x => x.data.toList)) = s.data.toList ∧ ∀ a ∈ cutS (c.toNat : Int) s, c ∉ a.data.toList := by
  obtain ⟨h1, h2⟩ := pcs_facts c s s.size (Nat.le_refl _)
  have e : (cutS (c.toNat : Int) s).map (fun x => x.data.toList) = pcs c s s.size := by
    unfold cutS pcs
    rw [List.map_append]; rfl
  have ez : cutB s 0 s.size = s.data.toList := by
    unfold cutB; rw [ext_data, List.drop_zero, Nat.sub_zero]; exact List.take_of_length_le (by rw [bt_len]; omega)
  refine ⟨by rw [e, h1, ez], fun a ha => h2 _ (by rw [← e]; exact List.mem_map_of_mem ha)⟩
theorem cutS_ne (c : Int) (s : ByteArray) : cutS c s ≠ [] := by unfold cutS; simp
theorem map_txt (Q : List ByteArray) : (Q.map (fun x => x.data.toList)).map txt = Q := by
  induction Q with
  | nil => rfl
  | cons x t ih => rw [List.map_cons, List.map_cons, ih, txt_of]
/-- pieces without the byte come back -/
theorem cut_join {c : UInt8} {P : List (List UInt8)} (hP : P ≠ []) (hc : ∀ a ∈ P, c ∉ a) : cutS (c.toNat : Int) (txt (joinL c P)) = P.map txt := by
  obtain ⟨h1, h2⟩ := cutS_facts c (txt (joinL c P))
  rw [txt_list] at h1
  have := join_inj _ P (by simp [cutS_ne]) hP (fun a ha => by obtain ⟨x, hx, rfl⟩ := List.mem_map.1 ha; exact h2 x hx) hc h1
  exact (map_txt _).symm.trans (congrArg (List.map txt) this)
/-- a text is its pieces joined -/
theorem join_cut (c : UInt8) (s : ByteArray) : txt (joinL c ((cutS (c.toNat : Int) s).map (fun x => x.data.toList))) = s := by rw [(cutS_facts c s).1, txt_of]
end Go.Proofs.Ythagafkjlecagaa
namespace Go.Proofs.Ythagafkjlecagaa

/-- a line: an owner and a fraction -/
def lineB (o n d : Int) : List UInt8 := decL o.toNat ++ 32 :: (frT n d).data.toList
theorem dec_no {c : UInt8} (hc : c.toNat < 48) (n : Nat) : c ∉ decL n := fun h => by
  have := List.all_eq_true.1 (dig_dec n) _ h
  rw [isDig_iff] at this; omega
theorem frT_no {c : UInt8} (hc : c.toNat < 47) (n d : Int) : c ∉ (frT n d).data.toList := fun h => by
  rw [frT_list] at h
  rcases List.mem_append.1 h with h | h
  · exact dec_no (by omega) _ h
  · rcases List.mem_cons.1 h with h | h
    · rw [h] at hc; exact absurd hc (by decide)
    · exact dec_no (by omega) _ h
theorem line_no (o n d : Int) : (10 : UInt8) ∉ lineB o n d := fun h => by
  unfold lineB at h
  rcases List.mem_append.1 h with h | h
  · exact dec_no (by decide) _ h
  · rcases List.mem_cons.1 h with h | h
    · exact absurd h (by decide)
    · exact frT_no (by decide) _ _ h
/-- the words of a line -/
theorem line_cut (o n d : Int) : cutS 32 (txt (lineB o n d)) = [txt (decL o.toNat), frT n d] := by
  have := cut_join (c := 32) (P := [decL o.toNat, (frT n d).data.toList]) (by simp) (fun a ha => by
    rcases List.mem_cons.1 ha with rfl | ha
    · exact dec_no (by decide) _
    · simp only [List.mem_singleton] at ha; subst ha; exact frT_no (by decide) _ _)
  rw [show joinL 32 [decL o.toNat, (frT n d).data.toList] = lineB o n d from rfl] at this
  rw [show ((32 : UInt8).toNat : Int) = 32 from rfl] at this
  rw [this]
  simp [txt_of]
/-- a line of two words that are a number and a fraction is the line of these -/
theorem line_back {x a b : ByteArray} (h : cutS 32 x = [a, b]) (ho : 0 ≤ rdS 1000000 a) (hp : pok b = true) : txt (lineB (rdS 1000000 a) (pnum b) (pden b)) = x := by
  have hj := join_cut 32 x
  rw [show ((32 : UInt8).toNat : Int) = 32 from rfl, h] at hj
  unfold lineB
  rw [fr_back hp]
  have := (rd_back (lim := 1000000) (l := a.data.toList) ho).1
  unfold rdS
  rw [this]
  exact hj
/-- the text of lines -/
def textB (T : List (Int × Int × Int)) : List UInt8 := T.flatMap (fun h => lineB h.1 h.2.1 h.2.2 ++ [10])
theorem text_join (T : List (Int × Int × Int)) : textB T = joinL 10 (T.map (fun h => lineB h.1 h.2.1 h.2.2) ++ [[]]) := by
  induction T with
  | nil => rfl
  | cons h t ih =>
    rw [List.map_cons, List.cons_append, join_cons 10 _ (by simp), ← ih]
    show (lineB h.1 h.2.1 h.2.2 ++ [10]) ++ textB t = _
    simp
/-- the lines of a text -/
theorem text_cut (T : List (Int × Int × Int)) : cutS 10 (txt (textB T)) = T.map (fun h => txt (lineB h.1 h.2.1 h.2.2)) ++ [txt []] := by
  have := cut_join (c := 10) (P := T.map (fun h => lineB h.1 h.2.1 h.2.2) ++ [[]]) (by simp) (fun a ha => by
    rcases List.mem_append.1 ha with ha | ha
    · obtain ⟨h, _, rfl⟩ := List.mem_map.1 ha; exact line_no _ _ _
    · simp only [List.mem_singleton] at ha; subst ha; simp)
  rw [← text_join, show ((10 : UInt8).toNat : Int) = 10 from rfl] at this
  rw [this, List.map_append, List.map_map]; rfl
/-- a text whose last piece is empty is the text of its lines -/
theorem text_back {s : ByteArray} {T : List (Int × Int × Int)} (h : cutS 10 s = T.map (fun h => txt (lineB h.1 h.2.1 h.2.2)) ++ [txt []]) : txt (textB T) = s := by
  have hj := join_cut 10 s
  rw [show ((10 : UInt8).toNat : Int) = 10 from rfl, h, List.map_append, List.map_map] at hj
  rw [text_join]
  exact hj
theorem text_app (A B : List (Int × Int × Int)) : textB (A ++ B) = textB A ++ textB B := by unfold textB; rw [List.flatMap_append]
end Go.Proofs.Ythagafkjlecagaa
namespace Go.Proofs.Ythagafkjlecagaa
set_option linter.unusedSimpArgs false
set_option linter.unusedVariables false
/-- a deed as its numbers -/
structure Dd where
  k : Int
  o : Int
  t : Int
  n : Int
  d : Int
  zs : List Int
def dd0 : Dd := ⟨0, 0, 0, 0, 0, []⟩
/-- an event as its numbers -/
structure Ev where
  k : Int
  dd : Dd
  at_ : Int
  nu : Int
def ev0 : Ev := ⟨0, dd0, 0, 0⟩
def kSell : List UInt8 := [115, 101, 108, 108]
def kInh : List UInt8 := [105, 110, 104, 101, 114, 105, 116]
def kJoin : List UInt8 := [106, 111, 105, 110]
def kTurns : List UInt8 := [116, 117, 114, 110, 115]
def kSwap : List UInt8 := [115, 119, 97, 112]
def kGate : List UInt8 := [103, 97, 116, 101]
def kDig : List UInt8 := [100, 105, 103]
def kHour : List UInt8 := [104, 111, 117, 114]
def nT (n : Int) : List UInt8 := decL n.toNat
def ownB (n : Int) : Bool := decide (1 ≤ n) && decide (n ≤ 999)
def smlB (n : Int) : Bool := decide (0 ≤ n) && decide (n ≤ 9999)
theorem own_iff {n : Int} : ownB n = true ↔ 1 ≤ n ∧ n ≤ 999 := by unfold ownB; simp
theorem sml_iff {n : Int} : smlB n = true ↔ 0 ≤ n ∧ n ≤ 9999 := by unfold smlB; simp
/-- the words of a deed, none if it has no text -/
def deedW (x : Dd) : List (List UInt8) :=
  if ownB x.o = true ∧ x.zs.length ≤ 12 then
    if x.k = 1 then (if x.zs.all ownB = true then kInh :: nT x.o :: x.zs.map nT else [])
    else if ownB x.t = true then
      (if x.k = 2 then [kJoin, nT x.o, nT x.t]
       else if x.k = 0 ∧ Wsh.vfB x.n x.d = true then [kSell, nT x.o, nT x.t, (frT x.n x.d).data.toList] else [])
    else []
  else []
/-- the words of an event, none if it has no text -/
def evW (e : Ev) : List (List UInt8) :=
  if smlB e.at_ = true ∧ smlB e.nu = true then
    if e.k = 0 then deedW e.dd
    else if e.k = 1 then [kTurns, nT e.nu]
    else if e.k = 2 then [kSwap, nT e.at_, nT e.nu]
    else if e.k = 3 then [kGate, nT e.at_, nT e.nu]
    else if e.k = 4 then [kDig, nT e.at_, nT e.nu]
    else if e.k = 5 then [kHour, nT e.nu]
    else []
  else []
def evT (e : Ev) : List UInt8 := joinL 32 (evW e)
def fmE (e : Ev) : ByteArray := txt (evT e)
/-- what a text names, and 0 elsewhere -/
def canD (x : Dd) : Dd := if x.k = 1 then ⟨1, x.o, 0, 0, 0, x.zs⟩ else if x.k = 2 then ⟨2, x.o, x.t, 0, 0, []⟩ else ⟨0, x.o, x.t, x.n, x.d, []⟩
def canE (e : Ev) : Ev :=
  if e.k = 1 then ⟨1, dd0, 0, e.nu⟩ else if e.k = 2 then ⟨2, dd0, e.at_, e.nu⟩ else if e.k = 3 then ⟨3, dd0, e.at_, e.nu⟩ else if e.k = 4 then ⟨4, dd0, e.at_, e.nu⟩
  else if e.k = 5 then ⟨5, dd0, 0, e.nu⟩ else ⟨0, canD e.dd, 0, 0⟩
theorem deed_kinds (x : Dd) (h : deedW x ≠ []) : x.k = 0 ∨ x.k = 1 ∨ x.k = 2 := by
  unfold deedW at h
  by_cases a : x.k = 1
  · exact .inr (.inl a)
  by_cases b : x.k = 2
  · exact .inr (.inr b)
  by_cases c : x.k = 0
  · exact .inl c
  exfalso; apply h
  have q : ¬ (x.k = 0 ∧ Wsh.vfB x.n x.d = true) := fun q => c q.1
  rw [if_neg a, if_neg b, if_neg q]
  split
  · split <;> rfl
  · rfl
theorem ev_kinds (e : Ev) (h : evW e ≠ []) : (e.k = 0 ∨ e.k = 1 ∨ e.k = 2 ∨ e.k = 3 ∨ e.k = 4 ∨ e.k = 5) ∧ smlB e.at_ = true ∧ smlB e.nu = true := by
  unfold evW at h
  by_cases s : smlB e.at_ = true ∧ smlB e.nu = true
  · rw [if_pos s] at h
    refine ⟨?_, s⟩
    by_cases c0 : e.k = 0
    · omega
    rw [if_neg c0] at h
    by_cases c1 : e.k = 1
    · omega
    rw [if_neg c1] at h
    by_cases c2 : e.k = 2
    · omega
    rw [if_neg c2] at h
    by_cases c3 : e.k = 3
    · omega
    rw [if_neg c3] at h
    by_cases c4 : e.k = 4
    · omega
    rw [if_neg c4] at h
    by_cases c5 : e.k = 5
    · omega
    rw [if_neg c5] at h
    exact absurd rfl h
  · rw [if_neg s] at h; exact absurd rfl h
theorem can_deed {x : Dd} (h : deedW x ≠ []) : deedW (canD x) = deedW x := by
  rcases deed_kinds x h with e | e | e
  · have c : canD x = ⟨0, x.o, x.t, x.n, x.d, []⟩ := by unfold canD; rw [e]; rfl
    rw [c]
    unfold deedW at h ⊢
    rw [e] at h ⊢
    by_cases a : ownB x.o = true ∧ x.zs.length ≤ 12
    · rw [if_pos a, if_pos ⟨a.1, by simp⟩]; rfl
    · rw [if_neg a] at h; exact absurd rfl h
  · have c : canD x = ⟨1, x.o, 0, 0, 0, x.zs⟩ := by unfold canD; rw [e]; rfl
    rw [c]
    unfold deedW
    rw [e]; rfl
  · have c : canD x = ⟨2, x.o, x.t, 0, 0, []⟩ := by unfold canD; rw [e]; rfl
    rw [c]
    unfold deedW at h ⊢
    rw [e] at h ⊢
    by_cases a : ownB x.o = true ∧ x.zs.length ≤ 12
    · rw [if_pos a, if_pos ⟨a.1, by simp⟩]; rfl
    · rw [if_neg a] at h; exact absurd rfl h
theorem can_words {e : Ev} (h : evW e ≠ []) : evW (canE e) = evW e := by
  obtain ⟨hk, h1, h2⟩ := ev_kinds e h
  have z : smlB 0 = true := rfl
  rcases hk with c | c | c | c | c | c
  · have q : canE e = ⟨0, canD e.dd, 0, 0⟩ := by unfold canE; rw [c]; rfl
    have w : evW e = deedW e.dd := by unfold evW; rw [if_pos ⟨h1, h2⟩, if_pos c]
    rw [w] at h ⊢
    rw [q]
    exact can_deed h
  all_goals
    have q := c
    unfold canE evW
    rw [c]
    simp [h1, h2, z]
theorem can_twice (e : Ev) : canE (canE e) = canE e := by
  unfold canE
  by_cases c1 : e.k = 1
  · rw [if_pos c1]; rfl
  rw [if_neg c1]
  by_cases c2 : e.k = 2
  · rw [if_pos c2]; rfl
  rw [if_neg c2]
  by_cases c3 : e.k = 3
  · rw [if_pos c3]; rfl
  rw [if_neg c3]
  by_cases c4 : e.k = 4
  · rw [if_pos c4]; rfl
  rw [if_neg c4]
  by_cases c5 : e.k = 5
  · rw [if_pos c5]; rfl
  rw [if_neg c5]
  show (⟨0, canD (canD e.dd), 0, 0⟩ : Ev) = _
  congr 1
  unfold canD
  by_cases d1 : e.dd.k = 1
  · rw [if_pos d1]; rfl
  rw [if_neg d1]
  by_cases d2 : e.dd.k = 2
  · rw [if_pos d2]; rfl
  rw [if_neg d2]; rfl
/-- words hold no space, and no newline -/
theorem kw_no {c : UInt8} (hc : c.toNat < 47) : c ∉ kSell ∧ c ∉ kInh ∧ c ∉ kJoin ∧ c ∉ kTurns ∧ c ∉ kSwap ∧ c ∉ kGate ∧ c ∉ kDig ∧ c ∉ kHour := by
  have key : ∀ l : List UInt8, (∀ b ∈ l, 47 ≤ b.toNat) → c ∉ l := fun l h m => by have := h c m; omega
  refine ⟨key _ ?_, key _ ?_, key _ ?_, key _ ?_, key _ ?_, key _ ?_, key _ ?_, key _ ?_⟩ <;> decide
theorem words_no {c : UInt8} (hc : c.toNat < 47) (e : Ev) : ∀ a ∈ evW e, c ∉ a := by
  obtain ⟨w1, w2, w3, w4, w5, w6, w7, w8⟩ := kw_no hc
  have wn : ∀ n : Int, c ∉ nT n := fun n => dec_no (by omega) _
  have wf : ∀ n d : Int, c ∉ (frT n d).data.toList := fun n d => frT_no (by omega) n d
  intro a ha
  unfold evW deedW at ha
  repeat' split at ha
  all_goals
    simp only [List.mem_cons, List.mem_map, List.not_mem_nil, or_false, false_and, and_false] at ha
  all_goals first
    | exact ha.elim
    | (rcases ha with rfl | rfl | ⟨z, _, rfl⟩ <;> first | assumption | exact wn _)
    | (rcases ha with rfl | rfl | rfl | rfl <;> first | assumption | exact wn _ | exact wf _ _)
    | (rcases ha with rfl | rfl | rfl <;> first | assumption | exact wn _)
    | (rcases ha with rfl | rfl <;> first | assumption | exact wn _)
theorem joinL_no {c d : UInt8} (hcd : c ≠ d) : ∀ P : List (List UInt8), (∀ a ∈ P, c ∉ a) → c ∉ joinL d P := by
  intro P
  induction P with
  | nil => intro _ m; cases m
  | cons x t ih =>
    intro h m
    by_cases ht : t = []
    · subst ht; exact h x (by simp) m
    · rw [join_cons d x ht] at m
      rcases List.mem_append.1 m with m | m
      · exact h x (by simp) m
      · rcases List.mem_cons.1 m with m | m
        · exact hcd m
        · exact ih (fun a ha => h a (by simp [ha])) m
theorem evT_no (e : Ev) : (10 : UInt8) ∉ evT e := joinL_no (by decide) _ (words_no (by decide) e)
theorem nT_ne (n : Int) : nT n ≠ [] := dec_ne _
theorem words_ne (e : Ev) : ∀ a ∈ evW e, a ≠ [] := by
  intro a ha
  unfold evW deedW at ha
  repeat' split at ha
  all_goals
    simp only [List.mem_cons, List.mem_map, List.not_mem_nil, or_false, false_and, and_false] at ha
  all_goals first
    | exact ha.elim
    | (rcases ha with rfl | rfl | ⟨z, _, rfl⟩ <;> first | exact nT_ne _ | decide)
    | (rcases ha with rfl | rfl | rfl | rfl <;> first | exact nT_ne _ | decide | (rw [frT_list]; simp))
    | (rcases ha with rfl | rfl | rfl <;> first | exact nT_ne _ | decide)
    | (rcases ha with rfl | rfl <;> first | exact nT_ne _ | decide)
theorem evT_nil (e : Ev) : evT e = [] ↔ evW e = [] := by
  constructor
  · intro h
    cases hw : evW e with
    | nil => rfl
    | cons a t =>
      exfalso
      have ha := words_ne e a (by rw [hw]; simp)
      unfold evT at h
      rw [hw] at h
      by_cases ht : t = []
      · subst ht; exact ha h
      · rw [join_cons 32 a ht] at h
        simp at h
  · intro h; unfold evT; rw [h]; rfl
theorem words_len (e : Ev) : (evW e).length ≤ 14 := by
  unfold evW deedW
  repeat' split
  all_goals first
    | simp; done
    | (simp only [List.length_cons, List.length_map]; rename_i h _ _; have := h.2; omega)
    | (simp only [List.length_cons, List.length_map, List.length_nil]; omega)
end Go.Proofs.Ythagafkjlecagaa
namespace Go.Proofs.Ythagafkjlecagaa
set_option linter.unusedSimpArgs false
set_option linter.unusedVariables false
abbrev tE : ByteArray := { data := #[] }
/-- the number that is a word, -1 if there is none (the program) -/
def nA (L : List ByteArray) (k : Nat) : Int := if k < L.length then rdS 10000000 (L.getD k tE) else -1
/-- the fraction that is a word, 0 / 0 if there is none -/
def pA (L : List ByteArray) (k : Nat) : Int × Int := if k < L.length ∧ pok (L.getD k tE) = true then (pnum (L.getD k tE), pden (L.getD k tE)) else (0, 0)
def hA (L : List ByteArray) : List Int := (L.drop 2).map (rdS 10000000)
def kw (L : List ByteArray) : List UInt8 := (L.getD 0 tE).data.toList
/-- the deed that the program reads -/
def rdD (L : List ByteArray) : Dd :=
  if kw L = kSell then ⟨0, nA L 1, nA L 2, (pA L 3).1, (pA L 3).2, []⟩
  else if kw L = kInh then ⟨1, nA L 1, 0, 0, 0, hA L⟩
  else if kw L = kJoin then ⟨2, nA L 1, nA L 2, 0, 0, []⟩
  else dd0
/-- the event that the program reads -/
def rdP (L : List ByteArray) : Ev :=
  if kw L = kTurns then ⟨1, dd0, 0, nA L 1⟩
  else if kw L = kSwap then ⟨2, dd0, nA L 1, nA L 2⟩
  else if kw L = kGate then ⟨3, dd0, nA L 1, nA L 2⟩
  else if kw L = kDig then ⟨4, dd0, nA L 1, nA L 2⟩
  else if kw L = kHour then ⟨5, dd0, 0, nA L 1⟩
  else ⟨0, rdD L, 0, 0⟩
/-- the numbers behind the first word (the model) -/
def nsM (L : List ByteArray) : List Int := (L.drop 1).map (rdS 1000000)
/-- the event that the model reads, if there is one -/
def rdM (L : List ByteArray) : Option Ev :=
  if kw L = kSell then
    (if L.length = 4 ∧ pok (L.getD 3 tE) = true then some ⟨0, ⟨0, rdS 1000000 (L.getD 1 tE), rdS 1000000 (L.getD 2 tE), pnum (L.getD 3 tE), pden (L.getD 3 tE), []⟩, 0, 0⟩ else none)
  else if (nsM L).all (fun n => decide (0 ≤ n)) = true ∧ nsM L ≠ [] then
    (if kw L = kJoin ∧ (nsM L).length = 2 then some ⟨0, ⟨2, (nsM L).getD 0 0, (nsM L).getD 1 0, 0, 0, []⟩, 0, 0⟩
     else if kw L = kInh then some ⟨0, ⟨1, (nsM L).getD 0 0, 0, 0, 0, (nsM L).drop 1⟩, 0, 0⟩
     else if kw L = kTurns ∧ (nsM L).length = 1 then some ⟨1, dd0, 0, (nsM L).getD 0 0⟩
     else if kw L = kHour ∧ (nsM L).length = 1 then some ⟨5, dd0, 0, (nsM L).getD 0 0⟩
     else if kw L = kSwap ∧ (nsM L).length = 2 then some ⟨2, dd0, (nsM L).getD 0 0, (nsM L).getD 1 0⟩
     else if kw L = kGate ∧ (nsM L).length = 2 then some ⟨3, dd0, (nsM L).getD 0 0, (nsM L).getD 1 0⟩
     else if kw L = kDig ∧ (nsM L).length = 2 then some ⟨4, dd0, (nsM L).getD 0 0, (nsM L).getD 1 0⟩
     else none)
  else none
def parM (s : ByteArray) : Option Ev := match rdM (cutS 32 s) with
  | some e => if s.size ≠ 0 ∧ fmE e = s then some e else none
  | none => none
def parP (L : List ByteArray) (s : ByteArray) : Option Ev := if s.size ≠ 0 ∧ fmE (rdP L) = s then some (rdP L) else none
theorem rdS_num {lim : Nat} {n : Int} (h0 : 0 ≤ n) (h : n < lim) : rdS lim (txt (nT n)) = n := by
  unfold rdS nT
  rw [txt_list, rd_dec (by omega)]
  omega
theorem sml_bd {n : Int} (h : smlB n = true) : 0 ≤ n ∧ n < 1000000 := by have := sml_iff.1 h; omega
theorem own_bd {n : Int} (h : ownB n = true) : 0 ≤ n ∧ n < 1000000 := by have := own_iff.1 h; omega
theorem rd10 {n : Int} (h : 0 ≤ n ∧ n < 1000000) : rdS 10000000 (txt (nT n)) = n := rdS_num h.1 (by omega)
theorem rd6 {n : Int} (h : 0 ≤ n ∧ n < 1000000) : rdS 1000000 (txt (nT n)) = n := rdS_num h.1 (by omega)
theorem kw_txt (a : List UInt8) (r : List ByteArray) : kw (txt a :: r) = a := rfl
theorem nA_one (a : ByteArray) (n : Int) (r : List ByteArray) (h : 0 ≤ n ∧ n < 1000000) : nA (a :: txt (nT n) :: r) 1 = n := by
  unfold nA; rw [if_pos (by simp)]; exact rd10 h
theorem nA_two (a b : ByteArray) (n : Int) (r : List ByteArray) (h : 0 ≤ n ∧ n < 1000000) : nA (a :: b :: txt (nT n) :: r) 2 = n := by
  unfold nA; rw [if_pos (by simp)]; exact rd10 h
theorem pA_three (a b c : ByteArray) {n d : Int} (h : Wsh.vfB n d = true) : pA [a, b, c, frT n d] 3 = (n, d) := by
  have q := fr_read h
  unfold pA; rw [if_pos ⟨by simp, q.1⟩]
  show (pnum (frT n d), pden (frT n d)) = _
  rw [q.2.1, q.2.2]
theorem map_rd {lim : Nat} (zs : List Int) (hz : zs.all ownB = true) (hl : 1000000 ≤ lim) : (zs.map (fun z => txt (nT z))).map (rdS lim) = zs := by
  rw [List.map_map]
  conv => rhs; rw [← List.map_id zs]
  apply List.map_congr_left
  intro z m
  have := own_bd (List.all_eq_true.1 hz z m)
  show rdS lim (txt (nT z)) = z
  exact rdS_num this.1 (by omega)
theorem dd_ext {x : Dd} {k o t n d : Int} {zs : List Int} (h1 : x.k = k) (h2 : x.o = o) (h3 : x.t = t) (h4 : x.n = n) (h5 : x.d = d) (h6 : x.zs = zs) : x = ⟨k, o, t, n, d, zs⟩ := by
  cases x; cases h1; cases h2; cases h3; cases h4; cases h5; cases h6; rfl
/-- what has a text, and nothing else, is read back by both -/
theorem read_can {e : Ev} (h : evW e ≠ []) (hc : canE e = e) : rdP ((evW e).map txt) = e ∧ rdM ((evW e).map txt) = some e := by
  obtain ⟨hk, h1, h2⟩ := ev_kinds e h
  have b1 := sml_bd h1
  have b2 := sml_bd h2
  obtain ⟨k, x, at_, nu⟩ := e
  dsimp only at hk h1 h2 b1 b2
  rcases hk with c | c | c | c | c | c
  · subst c
    have q : canE ⟨0, x, at_, nu⟩ = ⟨0, canD x, 0, 0⟩ := rfl
    rw [q] at hc
    injection hc with _ hx ha hn
    subst ha; subst hn
    have w : evW ⟨0, x, 0, 0⟩ = deedW x := rfl
    rw [w] at h ⊢
    have hk := deed_kinds x h
    obtain ⟨k, o, t, n, d, zs⟩ := x
    dsimp only at hk
    rcases hk with c | c | c
    · subst c
      have q : canD ⟨0, o, t, n, d, zs⟩ = ⟨0, o, t, n, d, []⟩ := rfl
      rw [q] at hx
      injection hx with _ _ _ _ _ hz
      subst hz
      unfold deedW at h ⊢
      dsimp only at h ⊢
      by_cases a : ownB o = true ∧ ([] : List Int).length ≤ 12
      · rw [if_pos a] at h ⊢
        rw [if_neg (by decide)] at h ⊢
        by_cases b : ownB t = true
        · rw [if_pos b] at h ⊢
          rw [if_neg (by decide)] at h ⊢
          by_cases v : (0 : Int) = 0 ∧ Wsh.vfB n d = true
          · rw [if_pos v]
            have bo := own_bd a.1
            have bt' := own_bd b
            have q := fr_read v.2
            constructor
            · show rdP [txt kSell, txt (nT o), txt (nT t), frT n d] = _
              unfold rdP rdD
              rw [kw_txt, if_neg (by decide), if_neg (by decide), if_neg (by decide), if_neg (by decide), if_neg (by decide), if_pos rfl, nA_one _ _ _ bo, nA_two _ _ _ _ bt', pA_three _ _ _ v.2]
            · show rdM [txt kSell, txt (nT o), txt (nT t), frT n d] = _
              unfold rdM
              rw [kw_txt, if_pos rfl, if_pos ⟨rfl, q.1⟩]
              show some (⟨0, ⟨0, rdS 1000000 (txt (nT o)), rdS 1000000 (txt (nT t)), pnum (frT n d), pden (frT n d), []⟩, 0, 0⟩ : Ev) = _
              rw [rd6 bo, rd6 bt', q.2.1, q.2.2]
          · rw [if_neg v] at h; exact absurd rfl h
        · rw [if_neg b] at h; exact absurd rfl h
      · rw [if_neg a] at h; exact absurd rfl h
    · subst c
      have q : canD ⟨1, o, t, n, d, zs⟩ = ⟨1, o, 0, 0, 0, zs⟩ := rfl
      rw [q] at hx
      injection hx with _ _ ht hn hd _
      subst ht; subst hn; subst hd
      unfold deedW at h ⊢
      dsimp only at h ⊢
      by_cases a : ownB o = true ∧ zs.length ≤ 12
      · rw [if_pos a] at h ⊢
        rw [if_pos rfl] at h ⊢
        by_cases b : zs.all ownB = true
        · rw [if_pos b]
          have bo := own_bd a.1
          have e1 : ((kInh :: nT o :: zs.map nT).map txt) = txt kInh :: txt (nT o) :: zs.map (fun z => txt (nT z)) := by simp
          rw [e1]
          constructor
          · unfold rdP rdD
            rw [kw_txt, if_neg (by decide), if_neg (by decide), if_neg (by decide), if_neg (by decide), if_neg (by decide), if_neg (by decide), if_pos rfl, nA_one _ _ _ bo]
            unfold hA
            show (⟨0, ⟨1, o, 0, 0, 0, (zs.map (fun z => txt (nT z))).map (rdS 10000000)⟩, 0, 0⟩ : Ev) = _
            rw [map_rd zs b (by omega)]
          · have e2 : nsM (txt kInh :: txt (nT o) :: zs.map (fun z => txt (nT z))) = o :: zs := by
              show rdS 1000000 (txt (nT o)) :: (zs.map (fun z => txt (nT z))).map (rdS 1000000) = _
              rw [rd6 bo, map_rd zs b (by omega)]
            have e3 : (o :: zs).all (fun n => decide (0 ≤ n)) = true := by
              rw [List.all_eq_true]
              intro z m
              rcases List.mem_cons.1 m with m | m
              · subst m; exact decide_eq_true bo.1
              · exact decide_eq_true (own_bd (List.all_eq_true.1 b z m)).1
            unfold rdM
            rw [e2, kw_txt, if_neg (by decide), if_pos ⟨e3, by simp⟩, if_neg (fun c => absurd c.1 (by decide)), if_pos rfl]
            rfl
        · rw [if_neg b] at h; exact absurd rfl h
      · rw [if_neg a] at h; exact absurd rfl h
    · subst c
      have q : canD ⟨2, o, t, n, d, zs⟩ = ⟨2, o, t, 0, 0, []⟩ := rfl
      rw [q] at hx
      injection hx with _ _ _ hn hd hz
      subst hn; subst hd; subst hz
      unfold deedW at h ⊢
      dsimp only at h ⊢
      by_cases a : ownB o = true ∧ ([] : List Int).length ≤ 12
      · rw [if_pos a] at h ⊢
        rw [if_neg (by decide)] at h ⊢
        by_cases b : ownB t = true
        · rw [if_pos b, if_pos rfl]
          have bo := own_bd a.1
          have bt' := own_bd b
          constructor
          · show rdP [txt kJoin, txt (nT o), txt (nT t)] = _
            unfold rdP rdD
            rw [kw_txt, if_neg (by decide), if_neg (by decide), if_neg (by decide), if_neg (by decide), if_neg (by decide), if_neg (by decide), if_neg (by decide), if_pos rfl, nA_one _ _ _ bo, nA_two _ _ _ _ bt']
          · have e2 : nsM [txt kJoin, txt (nT o), txt (nT t)] = [o, t] := by
              show [rdS 1000000 (txt (nT o)), rdS 1000000 (txt (nT t))] = _
              rw [rd6 bo, rd6 bt']
            show rdM [txt kJoin, txt (nT o), txt (nT t)] = _
            unfold rdM
            rw [e2, kw_txt, if_neg (by decide), if_pos ⟨by simp [bo.1, bt'.1], by simp⟩, if_pos ⟨rfl, rfl⟩]
            rfl
        · rw [if_neg b] at h; exact absurd rfl h
      · rw [if_neg a] at h; exact absurd rfl h
  · subst c
    have q : canE ⟨1, x, at_, nu⟩ = ⟨1, dd0, 0, nu⟩ := rfl
    rw [q] at hc
    injection hc with _ hx ha hn
    subst ha; subst hx
    have w : evW ⟨1, dd0, 0, nu⟩ = [kTurns, nT nu] := by unfold evW; rw [if_pos ⟨h1, h2⟩]; rfl
    rw [w]
    constructor
    · show rdP [txt kTurns, txt (nT nu)] = _
      unfold rdP
      rw [kw_txt, if_pos rfl, nA_one _ _ _ b2]
    · have e2 : nsM [txt kTurns, txt (nT nu)] = [nu] := by
        show [rdS 1000000 (txt (nT nu))] = _
        rw [rd6 b2]
      show rdM [txt kTurns, txt (nT nu)] = _
      unfold rdM
      rw [e2, kw_txt, if_neg (by decide), if_pos ⟨by simp [b2.1], by simp⟩, if_neg (fun c => absurd c.1 (by decide)), if_neg (by decide), if_pos ⟨rfl, rfl⟩]
      rfl
  · subst c
    have q : canE ⟨2, x, at_, nu⟩ = ⟨2, dd0, at_, nu⟩ := rfl
    rw [q] at hc
    injection hc with _ hx ha hn
    subst hx
    have w : evW ⟨2, dd0, at_, nu⟩ = [kSwap, nT at_, nT nu] := by unfold evW; rw [if_pos ⟨h1, h2⟩]; rfl
    rw [w]
    constructor
    · show rdP [txt kSwap, txt (nT at_), txt (nT nu)] = _
      unfold rdP
      rw [kw_txt, if_neg (by decide), if_pos rfl, nA_one _ _ _ b1, nA_two _ _ _ _ b2]
    · have e2 : nsM [txt kSwap, txt (nT at_), txt (nT nu)] = [at_, nu] := by
        show [rdS 1000000 (txt (nT at_)), rdS 1000000 (txt (nT nu))] = _
        rw [rd6 b1, rd6 b2]
      show rdM [txt kSwap, txt (nT at_), txt (nT nu)] = _
      unfold rdM
      rw [e2, kw_txt, if_neg (by decide), if_pos ⟨by simp [b1.1, b2.1], by simp⟩, if_neg (fun c => absurd c.1 (by decide)), if_neg (by decide), if_neg (fun c => absurd c.1 (by decide)), if_neg (fun c => absurd c.1 (by decide)), if_pos ⟨rfl, rfl⟩]
      rfl
  · subst c
    have q : canE ⟨3, x, at_, nu⟩ = ⟨3, dd0, at_, nu⟩ := rfl
    rw [q] at hc
    injection hc with _ hx ha hn
    subst hx
    have w : evW ⟨3, dd0, at_, nu⟩ = [kGate, nT at_, nT nu] := by unfold evW; rw [if_pos ⟨h1, h2⟩]; rfl
    rw [w]
    constructor
    · show rdP [txt kGate, txt (nT at_), txt (nT nu)] = _
      unfold rdP
      rw [kw_txt, if_neg (by decide), if_neg (by decide), if_pos rfl, nA_one _ _ _ b1, nA_two _ _ _ _ b2]
    · have e2 : nsM [txt kGate, txt (nT at_), txt (nT nu)] = [at_, nu] := by
        show [rdS 1000000 (txt (nT at_)), rdS 1000000 (txt (nT nu))] = _
        rw [rd6 b1, rd6 b2]
      show rdM [txt kGate, txt (nT at_), txt (nT nu)] = _
      unfold rdM
      rw [e2, kw_txt, if_neg (by decide), if_pos ⟨by simp [b1.1, b2.1], by simp⟩, if_neg (fun c => absurd c.1 (by decide)), if_neg (by decide), if_neg (fun c => absurd c.1 (by decide)), if_neg (fun c => absurd c.1 (by decide)), if_neg (fun c => absurd c.1 (by decide)), if_pos ⟨rfl, rfl⟩]
      rfl
  · subst c
    have q : canE ⟨4, x, at_, nu⟩ = ⟨4, dd0, at_, nu⟩ := rfl
    rw [q] at hc
    injection hc with _ hx ha hn
    subst hx
    have w : evW ⟨4, dd0, at_, nu⟩ = [kDig, nT at_, nT nu] := by unfold evW; rw [if_pos ⟨h1, h2⟩]; rfl
    rw [w]
    constructor
    · show rdP [txt kDig, txt (nT at_), txt (nT nu)] = _
      unfold rdP
      rw [kw_txt, if_neg (by decide), if_neg (by decide), if_neg (by decide), if_pos rfl, nA_one _ _ _ b1, nA_two _ _ _ _ b2]
    · have e2 : nsM [txt kDig, txt (nT at_), txt (nT nu)] = [at_, nu] := by
        show [rdS 1000000 (txt (nT at_)), rdS 1000000 (txt (nT nu))] = _
        rw [rd6 b1, rd6 b2]
      show rdM [txt kDig, txt (nT at_), txt (nT nu)] = _
      unfold rdM
      rw [e2, kw_txt, if_neg (by decide), if_pos ⟨by simp [b1.1, b2.1], by simp⟩, if_neg (fun c => absurd c.1 (by decide)), if_neg (by decide), if_neg (fun c => absurd c.1 (by decide)), if_neg (fun c => absurd c.1 (by decide)), if_neg (fun c => absurd c.1 (by decide)), if_neg (fun c => absurd c.1 (by decide)), if_pos ⟨rfl, rfl⟩]
      rfl
  · subst c
    have q : canE ⟨5, x, at_, nu⟩ = ⟨5, dd0, 0, nu⟩ := rfl
    rw [q] at hc
    injection hc with _ hx ha hn
    subst ha; subst hx
    have w : evW ⟨5, dd0, 0, nu⟩ = [kHour, nT nu] := by unfold evW; rw [if_pos ⟨h1, h2⟩]; rfl
    rw [w]
    constructor
    · show rdP [txt kHour, txt (nT nu)] = _
      unfold rdP
      rw [kw_txt, if_neg (by decide), if_neg (by decide), if_neg (by decide), if_neg (by decide), if_pos rfl, nA_one _ _ _ b2]
    · have e2 : nsM [txt kHour, txt (nT nu)] = [nu] := by
        show [rdS 1000000 (txt (nT nu))] = _
        rw [rd6 b2]
      show rdM [txt kHour, txt (nT nu)] = _
      unfold rdM
      rw [e2, kw_txt, if_neg (by decide), if_pos ⟨by simp [b2.1], by simp⟩, if_neg (fun c => absurd c.1 (by decide)), if_neg (by decide), if_neg (fun c => absurd c.1 (by decide)), if_pos ⟨rfl, rfl⟩]
      rfl
/-- an event with a text: its words are those of the text -/
theorem fm_words {e : Ev} (h : evW e ≠ []) : cutS 32 (fmE e) = (evW e).map txt := cut_join (c := 32) h (words_no (c := 32) (by decide) e)
theorem fm_ne {e : Ev} {s : ByteArray} (h0 : s.size ≠ 0) (h : fmE e = s) : evW e ≠ [] := by
  intro c
  apply h0
  rw [← h]
  unfold fmE
  rw [(evT_nil e).2 c]
  rfl
theorem fm_can {e : Ev} (h : evW e ≠ []) : fmE (canE e) = fmE e := by unfold fmE evT; rw [can_words h]
theorem fm_size {e : Ev} (h : evW e ≠ []) : (fmE e).size ≠ 0 := by
  intro c
  unfold fmE at c
  rw [txt_size] at c
  exact h ((evT_nil e).1 (List.eq_nil_of_length_eq_zero c))
/-- whatever has a text is read from it by both, without what the text does not name -/
theorem par_of {e : Ev} (h : evW e ≠ []) {L : List ByteArray} (hL : (cutS 32 (fmE e)).length ≤ 14 → L = cutS 32 (fmE e)) : parP L (fmE e) = some (canE e) ∧ parM (fmE e) = some (canE e) := by
  have hw := fm_words h
  have hl : (cutS 32 (fmE e)).length ≤ 14 := by rw [hw, List.length_map]; exact words_len e
  have hc := read_can (e := canE e) (by rw [can_words h]; exact h) (can_twice e)
  rw [can_words h] at hc
  constructor
  · unfold parP
    rw [hL hl, hw, hc.1, if_pos ⟨fm_size h, fm_can h⟩]
  · unfold parM
    rw [hw, hc.2]
    dsimp only
    rw [if_pos ⟨fm_size h, fm_can h⟩]
theorem par_same {s : ByteArray} {L : List ByteArray} (hL : (cutS 32 s).length ≤ 14 → L = cutS 32 s) : parP L s = parM s := by
  by_cases h : s.size ≠ 0 ∧ ∃ e, fmE e = s
  · obtain ⟨h0, e, rfl⟩ := h
    have := par_of (fm_ne h0 rfl) hL
    rw [this.1, this.2]
  · have a : parP L s = none := by unfold parP; rw [if_neg (fun c => h ⟨c.1, _, c.2⟩)]
    have b : parM s = none := by
      unfold parM
      cases rdM (cutS 32 s) with
      | none => rfl
      | some e => dsimp only; rw [if_neg (fun c => h ⟨c.1, _, c.2⟩)]
    rw [a, b]
/-- an event that is read has the text that it was read from -/
theorem par_is {s : ByteArray} {e : Ev} (h : parM s = some e) : s.size ≠ 0 ∧ fmE e = s ∧ evW e ≠ [] ∧ canE e = e := by
  have key : s.size ≠ 0 ∧ fmE e = s := by
    unfold parM at h
    cases c : rdM (cutS 32 s) with
    | none => rw [c] at h; cases h
    | some x =>
      rw [c] at h
      dsimp only at h
      by_cases q : s.size ≠ 0 ∧ fmE x = s
      · rw [if_pos q] at h; injection h with h; subst h; exact q
      · rw [if_neg q] at h; cases h
  have hn := fm_ne key.1 key.2
  refine ⟨key.1, key.2, hn, ?_⟩
  have := (par_of hn (L := cutS 32 (fmE e)) (fun _ => rfl)).2
  rw [key.2, h] at this
  injection this with this
  exact this.symm
end Go.Proofs.Ythagafkjlecagaa
namespace Go.Proofs.Ythagafkjlecagaa

abbrev Led := List (Int × Rat)
/-- the share of an owner, 0 if there is none -/
def shareL : Led → Int → Rat
  | [], _ => 0
  | h :: t, o => if h.1 = o then h.2 else shareL t o
def Asc (L : Led) : Prop := L.Pairwise (fun a b => a.1 < b.1)
/-- shares are greater than 0 -/
def Pos (L : Led) : Prop := ∀ h ∈ L, 0 < h.2
/-- what the first holdings give when a share is set, and whether it has been placed -/
def setP (o : Int) (q : Rat) : Bool → Led → Led × Bool
  | d, [] => ([], d)
  | d, h :: t => ((if !d && decide (o ≤ h.1) then [(o, q)] else []) ++ (if h.1 ≠ o then [h] else []) ++ (setP o q (d || decide (o ≤ h.1)) t).1, (setP o q (d || decide (o ≤ h.1)) t).2)
/-- another share for an owner -/
def setL (L : Led) (o : Int) (q : Rat) : Led := (setP o q (decide (q = 0)) L).1 ++ (if (setP o q (decide (q = 0)) L).2 then [] else [(o, q)])
theorem setP_append (o : Int) (q : Rat) : ∀ (A B : Led) (d : Bool), setP o q d (A ++ B) = ((setP o q d A).1 ++ (setP o q (setP o q d A).2 B).1, (setP o q (setP o q d A).2 B).2) := by
  intro A
  induction A with
  | nil => intro B d; simp [setP]
  | cons h t ih => intro B d; simp only [List.cons_append, setP, ih, List.append_assoc]
/-- once it is placed, the holding of the owner is left out -/
theorem setP_done (o : Int) (q : Rat) : ∀ L : Led, setP o q true L = (L.filter (fun h => decide (h.1 ≠ o)), true) := by
  intro L
  induction L with
  | nil => rfl
  | cons h t ih =>
    simp only [setP, Bool.true_or, Bool.not_true, Bool.false_and, ih]
    by_cases e : h.1 = o
    · simp [e]
    · simp [e]
theorem share_none {L : Led} {o : Int} (h : ∀ x ∈ L, x.1 ≠ o) : shareL L o = 0 := by
  induction L with
  | nil => rfl
  | cons x t ih =>
    show (if x.1 = o then x.2 else shareL t o) = 0
    rw [if_neg (h x (by simp)), ih (fun y hy => h y (by simp [hy]))]
theorem share_mem {L : Led} {o : Int} (h : shareL L o ≠ 0) : ∃ x ∈ L, x.1 = o ∧ x.2 = shareL L o := by
  induction L with
  | nil => exact absurd rfl h
  | cons x t ih =>
    by_cases e : x.1 = o
    · exact ⟨x, by simp, e, by show x.2 = (if x.1 = o then x.2 else shareL t o); rw [if_pos e]⟩
    · have e2 : shareL (x :: t) o = shareL t o := by show (if x.1 = o then x.2 else shareL t o) = _; rw [if_neg e]
      rw [e2] at h ⊢
      obtain ⟨y, hy, h1, h2⟩ := ih h
      exact ⟨y, by simp [hy], h1, h2⟩
theorem share_of_mem {L : Led} (ha : Asc L) {x : Int × Rat} (hx : x ∈ L) : shareL L x.1 = x.2 := by
  induction L with
  | nil => simp at hx
  | cons y t ih =>
    have h1 := List.pairwise_cons.1 ha
    rcases List.mem_cons.1 hx with rfl | h
    · show (if x.1 = x.1 then x.2 else _) = _; rw [if_pos rfl]
    · have := h1.1 x h
      show (if y.1 = x.1 then y.2 else shareL t x.1) = _
      rw [if_neg (by omega), ih h1.2 h]
/-- owners of a list that ascends are known by it -/
theorem led_ext : ∀ (L M : Led), Asc L → Asc M → Pos L → Pos M → (∀ o, shareL L o = shareL M o) → L = M := by
  intro L
  induction L with
  | nil =>
    intro M _ hM _ pM h
    cases M with
    | nil => rfl
    | cons y t =>
      have h1 := h y.1
      rw [share_of_mem hM (by simp : y ∈ y :: t)] at h1
      have h2 := pM y (by simp)
      rw [← h1] at h2
      exact absurd (show (0 : Rat) < 0 from h2) (by decide)
  | cons x t ih =>
    intro M hL hM pL pM h
    have hx := h x.1
    rw [share_of_mem hL (by simp : x ∈ x :: t)] at hx
    have px := pL x (by simp)
    cases M with
    | nil => rw [show shareL [] x.1 = 0 from rfl] at hx; rw [hx] at px; exact absurd px (by decide)
    | cons y s =>
      have py := pM y (by simp)
      have hy := h y.1
      rw [share_of_mem hM (by simp : y ∈ y :: s)] at hy
      have a := List.pairwise_cons.1 hL
      have b := List.pairwise_cons.1 hM
      have e : x.1 = y.1 := by
        obtain ⟨u, hu, u1, _⟩ := share_mem (L := y :: s) (o := x.1) (by rw [← hx]; exact fun e => by rw [e] at px; exact absurd px (by decide))
        obtain ⟨v, hv, v1, _⟩ := share_mem (L := x :: t) (o := y.1) (by rw [hy]; exact fun e => by rw [e] at py; exact absurd py (by decide))
        rcases List.mem_cons.1 hu with rfl | hu
        · exact u1.symm
        · rcases List.mem_cons.1 hv with rfl | hv
          · exact v1
          · have := b.1 u hu; have := a.1 v hv; omega
      have e2 : x.2 = y.2 := by
        rw [hx, e]; exact share_of_mem hM (by simp)
      have exy : x = y := Prod.ext e e2
      subst exy
      congr 1
      refine ih s a.2 b.2 (fun z hz => pL z (by simp [hz])) (fun z hz => pM z (by simp [hz])) (fun o => ?_)
      by_cases eo : x.1 = o
      · subst eo
        rw [share_none (fun z hz => by have := a.1 z hz; omega), share_none (fun z hz => by have := b.1 z hz; omega)]
      · have := h o
        rw [show shareL (x :: t) o = shareL t o from by show (if x.1 = o then _ else _) = _; rw [if_neg eo], show shareL (x :: s) o = shareL s o from by show (if x.1 = o then _ else _) = _; rw [if_neg eo]] at this
        exact this
theorem share_filter (L : Led) (o p : Int) : shareL (L.filter (fun h => decide (h.1 ≠ o))) p = if p = o then 0 else shareL L p := by
  induction L with
  | nil => show (0 : Rat) = _; split <;> rfl
  | cons h t ih =>
    by_cases e : h.1 = o
    · rw [List.filter_cons_of_neg (by simp [e]), ih]
      split
      · rfl
      · next n => show _ = (if h.1 = p then h.2 else shareL t p); rw [if_neg (by omega)]
    · rw [List.filter_cons_of_pos (by simp [e])]
      show (if h.1 = p then h.2 else shareL _ p) = _
      rw [ih]
      by_cases ep : h.1 = p
      · rw [if_pos ep, if_neg (by omega)]; show _ = (if h.1 = p then h.2 else shareL t p); rw [if_pos ep]
      · rw [if_neg ep]
        split
        · rfl
        · show _ = (if h.1 = p then h.2 else shareL t p); rw [if_neg ep]
/-- as a list: the share is placed ahead of the first greater owner -/
theorem setL_zero (L : Led) (o : Int) : setL L o 0 = L.filter (fun h => decide (h.1 ≠ o)) := by
  unfold setL
  rw [show decide ((0 : Rat) = 0) = true from by decide, setP_done]; simp
def insL (o : Int) (q : Rat) : Led → Led
  | [] => [(o, q)]
  | h :: t => if o ≤ h.1 then (o, q) :: (h :: t).filter (fun h => decide (h.1 ≠ o)) else h :: insL o q t
theorem setL_ins {q : Rat} (hq : q ≠ 0) (L : Led) (o : Int) : setL L o q = insL o q L := by
  unfold setL
  rw [decide_eq_false hq]
  induction L with
  | nil => rfl
  | cons h t ih =>
    show _ = if o ≤ h.1 then _ else _
    by_cases e : o ≤ h.1
    · rw [if_pos e]
      simp only [setP, Bool.not_false, Bool.true_and, decide_eq_true e, Bool.false_or, setP_done]
      by_cases e2 : h.1 = o
      · simp [e2]
      · simp [e2]
    · rw [if_neg e]
      simp only [setP, Bool.not_false, Bool.true_and, decide_eq_false e, Bool.false_or]
      rw [← ih]
      have : h.1 ≠ o := by omega
      simp [this]
theorem ins_share {L : Led} (ha : Asc L) (o : Int) (q : Rat) (p : Int) : shareL (insL o q L) p = if p = o then q else shareL L p := by
  induction L with
  | nil =>
    show (if o = p then q else 0) = (if p = o then q else 0)
    by_cases e : p = o
    · rw [if_pos e, if_pos e.symm]
    · rw [if_neg e, if_neg (fun c => e c.symm)]
  | cons h t ih =>
    have h1 := List.pairwise_cons.1 ha
    show shareL (if o ≤ h.1 then _ else _) p = _
    by_cases e : o ≤ h.1
    · rw [if_pos e]
      show (if o = p then q else shareL _ p) = _
      rw [share_filter]
      by_cases ep : p = o
      · rw [if_pos ep.symm, if_pos ep]
      · rw [if_neg (fun c => ep c.symm), if_neg ep, if_neg ep]
    · rw [if_neg e]
      show (if h.1 = p then h.2 else shareL (insL o q t) p) = _
      rw [ih h1.2]
      by_cases ep : h.1 = p
      · rw [if_pos ep, if_neg (by omega)]; show _ = (if h.1 = p then h.2 else shareL t p); rw [if_pos ep]
      · rw [if_neg ep]
        split
        · rfl
        · show _ = (if h.1 = p then h.2 else shareL t p); rw [if_neg ep]
theorem share_set {L : Led} (ha : Asc L) (o : Int) (q : Rat) (p : Int) : shareL (setL L o q) p = if p = o then q else shareL L p := by
  by_cases hq : q = 0
  · subst hq; rw [setL_zero, share_filter]
  · rw [setL_ins hq, ins_share ha]
theorem asc_filter {L : Led} (ha : Asc L) (f : Int × Rat → Bool) : Asc (L.filter f) := List.Pairwise.filter f ha
theorem ins_mem {o : Int} {q : Rat} : ∀ {L : Led} {x : Int × Rat}, x ∈ insL o q L → x = (o, q) ∨ x ∈ L := by
  intro L
  induction L with
  | nil => intro x hx; left; simpa [insL] using hx
  | cons h t ih =>
    intro x hx
    unfold insL at hx
    split at hx
    · rcases List.mem_cons.1 hx with hx | hx
      · exact .inl hx
      · exact .inr (List.mem_filter.1 hx).1
    · rcases List.mem_cons.1 hx with hx | hx
      · exact .inr (by simp [hx])
      · rcases ih hx with h | h
        · exact .inl h
        · exact .inr (by simp [h])
theorem asc_ins {L : Led} (ha : Asc L) (o : Int) (q : Rat) : Asc (insL o q L) := by
  induction L with
  | nil => exact List.pairwise_singleton _ _
  | cons h t ih =>
    have h1 := List.pairwise_cons.1 ha
    unfold insL
    split
    · next e =>
      refine List.pairwise_cons.2 ⟨fun x hx => ?_, asc_filter ha _⟩
      have hm := List.mem_filter.1 hx
      have hne : x.1 ≠ o := by simpa using hm.2
      have hle : h.1 ≤ x.1 := by
        rcases List.mem_cons.1 hm.1 with rfl | hx
        · exact Int.le_refl _
        · exact Int.le_of_lt (h1.1 x hx)
      show o < x.1
      omega
    · next e =>
      refine List.pairwise_cons.2 ⟨fun x hx => ?_, ih h1.2⟩
      rcases ins_mem hx with rfl | hx
      · show h.1 < o; omega
      · exact h1.1 x hx
theorem asc_set {L : Led} (ha : Asc L) (o : Int) (q : Rat) : Asc (setL L o q) := by
  by_cases hq : q = 0
  · subst hq; rw [setL_zero]; exact asc_filter ha _
  · rw [setL_ins hq]; exact asc_ins ha o q
theorem pos_set {L : Led} (hp : Pos L) (o : Int) {q : Rat} (h : 0 ≤ q) : Pos (setL L o q) := by
  by_cases hq : q = 0
  · subst hq; rw [setL_zero]; exact fun x hx => hp x ((List.mem_filter.1 hx).1)
  · rw [setL_ins hq]
    intro x hx
    rcases ins_mem hx with rfl | hx
    · show 0 < q; grind
    · exact hp x hx
end Go.Proofs.Ythagafkjlecagaa
namespace Go.Proofs.Ythagafkjlecagaa

/-- a rational number that is a valid fraction -/
def frB (q : Rat) : Bool := decide (0 ≤ q.num) && decide (q.num ≤ (q.den : Int)) && decide ((q.den : Int) ≤ 10000)
theorem frB_iff (q : Rat) : frB q = true ↔ 0 ≤ q.num ∧ q.num ≤ (q.den : Int) ∧ (q.den : Int) ≤ 10000 := by unfold frB; simp [and_assoc]
theorem den_pos (q : Rat) : 1 ≤ (q.den : Int) := by have := q.den_pos; omega
theorem q_mk (q : Rat) : Rat.divInt q.num q.den = q := Rat.num_divInt_den q
theorem rn_q {n d : Int} (h : 0 < d) : Wsh.rn n d = (Rat.divInt n d).num := by
  rw [Rat.num_divInt, Int.sign_eq_one_of_pos h, Int.one_mul, Int.gcd_comm]; rfl
theorem rd_q {n d : Int} (h : 0 < d) : Wsh.rd n d = ((Rat.divInt n d).den : Int) := by
  rw [Rat.den_divInt, if_neg (by omega)]
  unfold Wsh.rd
  rw [Int.gcd_comm]
  have : (d.natAbs : Int) = d := Int.natAbs_of_nonneg (by omega)
  rw [Int.natCast_ediv, this]
theorem redB_q {n d : Int} (h : 0 < d) : Wsh.redB n d = frB (Rat.divInt n d) := by
  have g := Wsh.gcd_pos n d h
  have e1 := Wsh.rn_mul n d
  have e2 := Wsh.rd_mul n d
  unfold frB Wsh.redB
  rw [← rn_q h, ← rd_q h]
  have a1 : 0 ≤ n ↔ 0 ≤ Wsh.rn n d := by
    constructor
    · intro hn; exact (Wsh.rn_le n d hn).1
    · intro hn; rw [← e1]; exact Int.mul_nonneg hn (by omega)
  have a2 : n ≤ d ↔ Wsh.rn n d ≤ Wsh.rd n d := by
    constructor
    · intro hn
      have : Wsh.rn n d * (Int.gcd n d : Int) ≤ Wsh.rd n d * (Int.gcd n d : Int) := by rw [e1, e2]; exact hn
      exact Int.le_of_mul_le_mul_right this g
    · intro hn
      have := Int.mul_le_mul_of_nonneg_right hn (Int.le_of_lt g)
      rw [e1, e2] at this; exact this
  rw [decide_eq_decide.2 a1, decide_eq_decide.2 a2]
theorem vf_q {n d : Int} (h : Wsh.vfB n d = true) : (Rat.divInt n d).num = n ∧ ((Rat.divInt n d).den : Int) = d ∧ frB (Rat.divInt n d) = true := by
  have hd := ((Wsh.vfB_iff n d).1 h).1
  obtain ⟨a, b, c⟩ := Wsh.red_self n d h
  rw [rn_q (by omega)] at a
  rw [rd_q (by omega)] at b
  rw [redB_q (by omega)] at c
  exact ⟨a, b, c⟩
theorem gcd_q (q : Rat) : Int.gcd q.num q.den = 1 := by
  have := q.reduced
  unfold Int.gcd
  simpa [Nat.Coprime] using this
theorem q_vf {q : Rat} (h : frB q = true) : Wsh.vfB q.num q.den = true := by
  rw [frB_iff] at h
  rw [Wsh.vfB_iff]
  exact ⟨den_pos q, h.2.2, h.1, h.2.1, gcd_q q⟩
theorem vf_frB (q : Rat) : Wsh.vfB q.num q.den = frB q := by
  rw [Bool.eq_iff_iff]
  refine ⟨fun h => ?_, q_vf⟩
  have := (Wsh.vfB_iff _ _).1 h
  rw [frB_iff]; exact ⟨this.2.2.1, this.2.2.2.1, this.2.1⟩
theorem mul_dpos (p q : Rat) : 0 < (p.den : Int) * (q.den : Int) := Int.mul_pos (by have := den_pos p; omega) (by have := den_pos q; omega)
theorem add_q (p q : Rat) : Rat.divInt (p.num * q.den + q.num * p.den) (p.den * q.den) = p + q := by
  conv => rhs; rw [← q_mk p, ← q_mk q]
  rw [Rat.divInt_add_divInt _ _ (by have := den_pos p; omega) (by have := den_pos q; omega)]
theorem sub_q (p q : Rat) : Rat.divInt (p.num * q.den - q.num * p.den) (p.den * q.den) = p - q := by
  conv => rhs; rw [← q_mk p, ← q_mk q]
  rw [Rat.divInt_sub_divInt _ _ (by have := den_pos p; omega) (by have := den_pos q; omega)]
/-- a sum of fractions as the program makes it -/
theorem add_red (p q : Rat) : Wsh.redB (p.num * q.den + q.num * p.den) (p.den * q.den) = frB (p + q) ∧ Wsh.rn (p.num * q.den + q.num * p.den) (p.den * q.den) = (p + q).num ∧ Wsh.rd (p.num * q.den + q.num * p.den) (p.den * q.den) = ((p + q).den : Int) := by
  rw [redB_q (mul_dpos p q), rn_q (mul_dpos p q), rd_q (mul_dpos p q), add_q]; exact ⟨rfl, rfl, rfl⟩
theorem sub_red (p q : Rat) : Wsh.redB (p.num * q.den - q.num * p.den) (p.den * q.den) = frB (p - q) ∧ Wsh.rn (p.num * q.den - q.num * p.den) (p.den * q.den) = (p - q).num ∧ Wsh.rd (p.num * q.den - q.num * p.den) (p.den * q.den) = ((p - q).den : Int) := by
  rw [redB_q (mul_dpos p q), rn_q (mul_dpos p q), rd_q (mul_dpos p q), sub_q]; exact ⟨rfl, rfl, rfl⟩
theorem frB_nonneg {q : Rat} (h : frB q = true) : 0 ≤ q := Rat.num_nonneg.1 ((frB_iff q).1 h).1
theorem le_one (q : Rat) : q ≤ 1 ↔ q.num ≤ (q.den : Int) := by
  rw [Rat.le_iff]; simp
theorem frB_le {q : Rat} (h : frB q = true) : q ≤ 1 := (le_one q).2 ((frB_iff q).1 h).2.1
/-- a fraction: from 0 to 1, and its lower number not too great -/
theorem frB_of {q : Rat} (h0 : 0 ≤ q) (h1 : q ≤ 1) (hd : (q.den : Int) ≤ 10000) : frB q = true := (frB_iff q).2 ⟨Rat.num_nonneg.2 h0, (le_one q).1 h1, hd⟩
theorem num_zero (q : Rat) : q.num = 0 ↔ q = 0 := Rat.num_eq_zero
theorem lt_q (p q : Rat) : p < q ↔ p.num * q.den < q.num * p.den := Rat.lt_iff p q
theorem q_ext {p q : Rat} (h : p.num = q.num) (h2 : (p.den : Int) = q.den) : p = q := Rat.ext h (by omega)
end Go.Proofs.Ythagafkjlecagaa
namespace Go.Proofs.Ythagafkjlecagaa

/-- the sum of all shares -/
def totL : Led → Rat
  | [] => 0
  | h :: t => h.2 + totL t
theorem tot_append (A B : Led) : totL (A ++ B) = totL A + totL B := by
  induction A with
  | nil => show totL B = 0 + totL B; grind
  | cons h t ih => show h.2 + totL (t ++ B) = h.2 + totL t + totL B; rw [ih]; grind
theorem tot_take (L : Led) (k : Nat) : totL L = totL (L.take k) + totL (L.drop k) := by rw [← tot_append, List.take_append_drop]
theorem tot_nonneg {L : Led} (hp : Pos L) : 0 ≤ totL L := by
  induction L with
  | nil => exact Rat.le_refl
  | cons h t ih =>
    have h1 := hp h (by simp)
    have h2 := ih (fun x hx => hp x (by simp [hx]))
    show 0 ≤ h.2 + totL t
    grind
theorem tot_pos {L : Led} (hp : Pos L) (hn : L ≠ []) : 0 < totL L := by
  cases L with
  | nil => exact absurd rfl hn
  | cons h t =>
    have h1 := hp h (by simp)
    have h2 := tot_nonneg (L := t) (fun x hx => hp x (by simp [hx]))
    show 0 < h.2 + totL t
    grind
/-- a valid ledger -/
structure VL (L : Led) : Prop where
  len : L.length ≤ 12
  own : ∀ h ∈ L, 1 ≤ h.1 ∧ h.1 ≤ 999
  fr : ∀ h ∈ L, frB h.2 = true
  pos : Pos L
  asc : Asc L
  sums : ∀ k, k ≤ L.length → frB (totL (L.take k)) = true
  one : totL L = 1
def vlB (L : Led) : Bool := decide (L.length ≤ 12) && L.all (fun h => decide (1 ≤ h.1) && decide (h.1 ≤ 999)) && L.all (fun h => frB h.2) && L.all (fun h => decide (0 < h.2)) && decide (L.Pairwise (fun a b => a.1 < b.1)) && (List.range (L.length + 1)).all (fun k => frB (totL (L.take k))) && decide (totL L = 1)
theorem vl_iff (L : Led) : vlB L = true ↔ VL L := by
  unfold vlB
  simp only [Bool.and_eq_true, decide_eq_true_eq, List.all_eq_true, List.mem_range]
  constructor
  · rintro ⟨⟨⟨⟨⟨⟨a, b⟩, c⟩, d⟩, e⟩, f⟩, g⟩
    exact ⟨a, b, c, d, e, fun k hk => f k (by omega), g⟩
  · intro h
    exact ⟨⟨⟨⟨⟨⟨h.len, h.own⟩, h.fr⟩, h.pos⟩, h.asc⟩, fun k hk => h.sums k (by omega)⟩, h.one⟩
theorem frB_zero : frB 0 = true := by decide
theorem frB_one : frB 1 = true := by decide
/-- no part of a valid ledger alone is valid -/
theorem vl_part {L : Led} (h : VL L) {k : Nat} (hk : k < L.length) : ¬ VL (L.take k) := fun c => by
  have h1 := tot_take L k
  rw [h.one, c.one] at h1
  have h2 := tot_pos (L := L.drop k) (fun x hx => h.pos x (List.mem_of_mem_drop hx)) (fun e => by have := congrArg List.length e; rw [List.length_drop] at this; simp at this; omega)
  grind
theorem share_nonneg {L : Led} (hp : Pos L) (o : Int) : 0 ≤ shareL L o := by
  by_cases h : shareL L o = 0
  · rw [h]; exact Rat.le_refl
  · obtain ⟨x, hx, _, h2⟩ := share_mem h
    rw [← h2]; exact Rat.le_of_lt (hp x hx)
theorem share_fr {L : Led} (hv : VL L) (o : Int) : frB (shareL L o) = true := by
  by_cases h : shareL L o = 0
  · rw [h]; exact frB_zero
  · obtain ⟨x, hx, _, h2⟩ := share_mem h
    rw [← h2]; exact hv.fr x hx
theorem share_own {L : Led} (hv : VL L) {o : Int} (h : shareL L o ≠ 0) : 1 ≤ o ∧ o ≤ 999 := by
  obtain ⟨x, hx, h1, _⟩ := share_mem h
  rw [← h1]; exact hv.own x hx
/-- the ledger after a part was sold -/
def soldL (L : Led) (f t : Int) (p : Rat) : Led := setL (setL L f (shareL L f - p)) t (shareL L t + p)
/-- whether it can be sold: p is a fraction -/
def sellB (L : Led) (f t : Int) (p : Rat) : Bool :=
  frB (shareL L f - p) && frB (shareL L t + p) && decide (p ≠ 0) && decide (f ≠ t) && decide (1 ≤ t) && decide (t ≤ 999) && vlB (soldL L f t p)
theorem sell_iff (L : Led) (f t : Int) (p : Rat) : sellB L f t p = true ↔ frB (shareL L f - p) = true ∧ frB (shareL L t + p) = true ∧ p ≠ 0 ∧ f ≠ t ∧ 1 ≤ t ∧ t ≤ 999 ∧ VL (soldL L f t p) := by
  unfold sellB; simp [vl_iff, and_assoc]
theorem sold_share {L : Led} (ha : Asc L) {f t : Int} (p : Rat) (o : Int) : shareL (soldL L f t p) o = if o = t then shareL L t + p else if o = f then shareL L f - p else shareL L o := by
  unfold soldL
  rw [share_set (asc_set ha _ _), share_set ha]
/-- P20: what is sold can be bought back -/
theorem sell_back {L : Led} (hv : VL L) {f t : Int} {p : Rat} (hp : 0 ≤ p) (h : sellB L f t p = true) : sellB (soldL L f t p) t f p = true ∧ soldL (soldL L f t p) t f p = L := by
  obtain ⟨h1, h2, h3, h4, h5, h6, hm⟩ := (sell_iff _ _ _ _).1 h
  have st : shareL (soldL L f t p) t = shareL L t + p := by rw [sold_share hv.asc, if_pos rfl]
  have sf : shareL (soldL L f t p) f = shareL L f - p := by rw [sold_share hv.asc, if_neg h4, if_pos rfl]
  have e1 : shareL L t + p - p = shareL L t := Rat.add_sub_cancel
  have e2 : shareL L f - p + p = shareL L f := Rat.sub_add_cancel
  have back : soldL (soldL L f t p) t f p = L := by
    refine led_ext _ _ ?_ hv.asc ?_ hv.pos (fun o => ?_)
    · exact asc_set (asc_set hm.asc _ _) _ _
    · unfold soldL
      refine pos_set (pos_set hm.pos _ ?_) _ ?_
      · have := st; unfold soldL at this; rw [this, e1]; exact share_nonneg hv.pos t
      · have := sf; unfold soldL at this; rw [this, e2]; exact share_nonneg hv.pos f
    · rw [sold_share hm.asc, st, sf, e1, e2, sold_share hv.asc]
      by_cases o1 : o = f
      · rw [if_pos o1, o1]
      · rw [if_neg o1]
        by_cases o2 : o = t
        · rw [if_pos o2, o2]
        · rw [if_neg o2, if_neg o2, if_neg o1]
  refine ⟨(sell_iff _ _ _ _).2 ⟨?_, ?_, h3, fun e => h4 e.symm, ?_, ?_, by rw [back]; exact hv⟩, back⟩
  · rw [st, e1]; exact share_fr hv t
  · rw [sf, e2]; exact share_fr hv f
  · refine (share_own hv (o := f) (fun e => ?_)).1
    have := frB_nonneg h1; rw [e] at this; exact h3 (by grind)
  · refine (share_own hv (o := f) (fun e => ?_)).2
    have := frB_nonneg h1; rw [e] at this; exact h3 (by grind)

theorem len_filter {L : Led} (ha : Asc L) (hp : Pos L) (o : Int) : (L.filter (fun h => decide (h.1 ≠ o))).length + (if shareL L o = 0 then 0 else 1) = L.length := by
  induction L with
  | nil => rfl
  | cons h t ih =>
    have h1 := List.pairwise_cons.1 ha
    have pt : Pos t := fun x hx => hp x (by simp [hx])
    by_cases e : h.1 = o
    · have hz : shareL t o = 0 := share_none (fun x hx => by have := h1.1 x hx; omega)
      have hs : shareL (h :: t) o ≠ 0 := by
        show (if h.1 = o then h.2 else _) ≠ 0
        rw [if_pos e]; intro c; have := hp h (by simp); rw [c] at this; exact absurd this (by decide)
      have := ih h1.2 pt
      rw [if_pos hz] at this
      rw [List.filter_cons_of_neg (by simp [e]), if_neg hs, List.length_cons]; omega
    · have hs : shareL (h :: t) o = shareL t o := by show (if h.1 = o then h.2 else _) = _; rw [if_neg e]
      rw [List.filter_cons_of_pos (by simp [e]), hs, List.length_cons, List.length_cons]
      have := ih h1.2 pt
      omega
theorem len_ins {L : Led} (ha : Asc L) (hp : Pos L) (o : Int) (q : Rat) : (insL o q L).length = L.length + (if shareL L o = 0 then 1 else 0) := by
  induction L with
  | nil => rfl
  | cons h t ih =>
    have h1 := List.pairwise_cons.1 ha
    have pt : Pos t := fun x hx => hp x (by simp [hx])
    show (if o ≤ h.1 then _ else _ : Led).length = _
    by_cases e : o ≤ h.1
    · rw [if_pos e, List.length_cons]
      have := len_filter ha hp o
      split at this <;> split <;> first | omega | contradiction
    · have hs : shareL (h :: t) o = shareL t o := by show (if h.1 = o then h.2 else _) = _; rw [if_neg (by omega)]
      rw [if_neg e, List.length_cons, List.length_cons, ih h1.2 pt, hs]; omega
/-- P23: who joins shares has one holding less, or as many -/
theorem join_len {L : Led} (hv : VL L) {f t : Int} (hf : shareL L f ≠ 0) (hft : f ≠ t) : (soldL L f t (shareL L f)).length + (if shareL L t = 0 then 0 else 1) = L.length ∧ shareL (soldL L f t (shareL L f)) f = 0 := by
  refine ⟨?_, ?_⟩
  · unfold soldL
    rw [show shareL L f - shareL L f = 0 from Rat.sub_self, setL_zero]
    have hne : shareL L t + shareL L f ≠ 0 := by
      have a := share_nonneg hv.pos t
      have b := share_nonneg hv.pos f
      intro c; exact hf (by grind)
    have ha := asc_filter hv.asc (fun h => decide (h.1 ≠ f))
    have hp : Pos (L.filter (fun h => decide (h.1 ≠ f))) := fun x hx => hv.pos x (List.mem_filter.1 hx).1
    have es : shareL (L.filter (fun h => decide (h.1 ≠ f))) t = shareL L t := by rw [share_filter, if_neg (fun e => hft e.symm)]
    rw [setL_ins hne, len_ins ha hp, es]
    have := len_filter hv.asc hv.pos f
    rw [if_neg hf] at this
    split <;> omega
  · rw [sold_share hv.asc, if_neg hft, if_pos rfl, Rat.sub_self]
end Go.Proofs.Ythagafkjlecagaa
namespace Go.Proofs.Ythagafkjlecagaa

/-- the ledger after each heir got p -/
def giveL (p : Rat) : Led → List Int → Led
  | L, [] => L
  | L, h :: t => giveL p (setL L h (shareL L h + p)) t
theorem give_snoc (p : Rat) : ∀ (hs : List Int) (L : Led) (h : Int), giveL p L (hs ++ [h]) = setL (giveL p L hs) h (shareL (giveL p L hs) h + p) := by
  intro hs
  induction hs with
  | nil => intro L h; rfl
  | cons x t ih => intro L h; exact ih _ h
theorem give_asc (p : Rat) : ∀ (hs : List Int) (L : Led), Asc L → Asc (giveL p L hs) := by
  intro hs
  induction hs with
  | nil => intro L h; exact h
  | cons x t ih => intro L h; exact ih _ (asc_set h _ _)
theorem give_share (p : Rat) : ∀ (hs : List Int) (L : Led), Asc L → hs.Nodup → ∀ o, shareL (giveL p L hs) o = shareL L o + (if o ∈ hs then p else 0) := by
  intro hs
  induction hs with
  | nil => intro L _ _ o; show shareL L o = shareL L o + (if o ∈ [] then p else 0); rw [if_neg (by simp)]; grind
  | cons x t ih =>
    intro L ha hn o
    have hn' := List.nodup_cons.1 hn
    show shareL (giveL p (setL L x (shareL L x + p)) t) o = _
    rw [ih _ (asc_set ha _ _) hn'.2, share_set ha]
    by_cases e : o = x
    · subst e
      rw [if_pos rfl, if_neg hn'.1, if_pos (by simp)]; grind
    · rw [if_neg e]
      by_cases m : o ∈ t
      · rw [if_pos m, if_pos (by simp [m])]
      · rw [if_neg m, if_neg (by simp [m, e])]
theorem give_pos {p : Rat} (h0 : 0 ≤ p) : ∀ (hs : List Int) (L : Led), Pos L → Pos (giveL p L hs) := by
  intro hs
  induction hs with
  | nil => intro L h; exact h
  | cons x t ih => intro L h; exact ih _ (pos_set h _ (by have := share_nonneg h x; grind))
/-- an equal part of a share -/
theorem part_q (q : Rat) {m : Int} (hm : 0 < m) : Rat.divInt q.num (q.den * m) = q / (m : Rat) := by
  have h1 : (m : Rat) ≠ 0 := by intro c; have := (Rat.intCast_eq_zero_iff).1 c; omega
  have h2 : ((q.den : Int) : Rat) ≠ 0 := by intro c; have := (Rat.intCast_eq_zero_iff).1 c; have := den_pos q; omega
  have e : q = (q.num : Rat) / ((q.den : Int) : Rat) := by rw [← Rat.divInt_eq_div, q_mk]
  rw [Rat.divInt_eq_div, Rat.intCast_mul]
  conv => rhs; rw [e]
  grind
/-- P22: one heir gets all -/
theorem heir_one {L : Led} (ha : Asc L) {f t : Int} (hft : f ≠ t) : giveL (shareL L f) (setL L f 0) [t] = soldL L f t (shareL L f) := by
  show setL (setL L f 0) t (shareL (setL L f 0) t + shareL L f) = _
  unfold soldL
  rw [share_set ha, if_neg (fun e => hft e.symm), show shareL L f - shareL L f = 0 from Rat.sub_self]
/-- P21: each heir has as much more -/
theorem heir_more {L : Led} (ha : Asc L) {owner : Int} {hs : List Int} (hn : hs.Nodup) (ho : owner ∉ hs) (p : Rat) :
    (∀ h ∈ hs, shareL (giveL p (setL L owner 0) hs) h = shareL L h + p) ∧ shareL (giveL p (setL L owner 0) hs) owner = 0 := by
  refine ⟨fun h hm => ?_, ?_⟩
  · rw [give_share p hs _ (asc_set ha _ _) hn, if_pos hm, share_set ha, if_neg (fun e : h = owner => ho (by rw [← e]; exact hm))]
  · rw [give_share p hs _ (asc_set ha _ _) hn, if_neg ho, share_set ha, if_pos rfl]; grind

/-- CommonDen: the least common multiple of the first k denominators -/
def lcmTo (L : Led) : Nat → Nat
  | 0 => 1
  | k + 1 => Nat.lcm (lcmTo L k) (L.getD k (0, 0)).2.den
theorem lcm_succ (L : Led) (k : Nat) : lcmTo L (k + 1) = Nat.lcm (lcmTo L k) (L.getD k (0, 0)).2.den := rfl
theorem lcm_pos (L : Led) : ∀ k, 0 < lcmTo L k := by
  intro k
  induction k with
  | zero => exact Nat.one_pos
  | succ k ih => exact Nat.lcm_pos ih (Rat.den_pos _)
theorem lcm_dvd (L : Led) : ∀ k i, i < k → (L.getD i (0, 0)).2.den ∣ lcmTo L k := by
  intro k
  induction k with
  | zero => intro i h; omega
  | succ k ih =>
    intro i h
    by_cases e : i = k
    · subst e; exact Nat.dvd_lcm_right _ _
    · exact Nat.dvd_trans (ih i (by omega)) (Nat.dvd_lcm_left _ _)
theorem lcm_mono (L : Led) (k : Nat) : lcmTo L k ≤ lcmTo L (k + 1) := Nat.le_of_dvd (lcm_pos L (k + 1)) (Nat.dvd_lcm_left _ _)
theorem lcm_mono' (L : Led) : ∀ n k, lcmTo L k ≤ lcmTo L (k + n) := by
  intro n
  induction n with
  | zero => intro k; exact Nat.le_refl _
  | succ n ih => intro k; exact Nat.le_trans (ih k) (lcm_mono L (k + n))
/-- a share times a number that its denominator divides -/
theorem unit_q {q : Rat} {n : Nat} (h : q.den ∣ n) : (((n / q.den : Nat) : Int) * q.num : Int) = ((n : Rat) * q : Rat) := by
  obtain ⟨c, rfl⟩ := h
  have hd : 0 < q.den := q.den_pos
  rw [Nat.mul_div_cancel_left _ hd]
  have h2 : ((q.den : Int) : Rat) ≠ 0 := by intro e; have := (Rat.intCast_eq_zero_iff).1 e; omega
  have e : q * ((q.den : Int) : Rat) = (q.num : Rat) := by
    conv => lhs; arg 1; rw [← q_mk q, Rat.divInt_eq_div]
    exact Rat.div_mul_cancel h2
  rw [Rat.intCast_mul, ← e]
  have e2 : ((q.den * c : Nat) : Rat) = ((q.den : Int) : Rat) * (((c : Nat) : Int) : Rat) := by
    rw [← Rat.intCast_mul]; rfl
  rw [e2]; grind
/-- UnitsOf: shares times a number -/
def unitsL (L : Led) (n : Nat) : List Int := L.map (fun h => ((n / h.2.den : Nat) : Int) * h.2.num)
/-- P24: the units of a ledger whose shares are q together, are q times the number -/
theorem units_sum : ∀ (L : Led) (n : Nat), (∀ h ∈ L, h.2.den ∣ n) → (((unitsL L n).sum : Int) : Rat) = (n : Rat) * totL L := by
  intro L
  induction L with
  | nil => intro n _; show ((0 : Int) : Rat) = (n : Rat) * 0; grind
  | cons h t ih =>
    intro n hd
    show (((((n / h.2.den : Nat) : Int) * h.2.num + (unitsL t n).sum : Int)) : Rat) = (n : Rat) * (h.2 + totL t)
    rw [Rat.intCast_add, ih n (fun x hx => hd x (by simp [hx])), unit_q (hd h (by simp))]
    grind
theorem units_whole {L : Led} (h : totL L = 1) {n : Nat} (hd : ∀ x ∈ L, x.2.den ∣ n) : (unitsL L n).sum = (n : Int) := by
  have := units_sum L n hd
  rw [h] at this
  have e : (((unitsL L n).sum : Int) : Rat) = ((n : Int) : Rat) := by rw [this]; show (n : Rat) * 1 = (n : Rat); grind
  exact Rat.intCast_inj.1 e
/-- P25: a unit divided by the number is the share -/
theorem unit_share {q : Rat} {n : Nat} (hn : 0 < n) (h : q.den ∣ n) : Rat.divInt (((n / q.den : Nat) : Int) * q.num) n = q := by
  have h2 : ((n : Int) : Rat) ≠ 0 := by intro e; have := (Rat.intCast_eq_zero_iff).1 e; omega
  rw [Rat.divInt_eq_div, unit_q h]
  show ((n : Int) : Rat) * q / ((n : Int) : Rat) = q
  grind
theorem lcm_all {L : Led} : ∀ x ∈ L, x.2.den ∣ lcmTo L L.length := by
  intro x hx
  obtain ⟨i, hi, rfl⟩ := List.getElem_of_mem hx
  have := lcm_dvd L L.length i hi
  rwa [List.getD_eq_getElem?_getD, List.getElem?_eq_getElem hi] at this
end Go.Proofs.Ythagafkjlecagaa
namespace Go.Proofs.Ythagafkjlecagaa

abbrev Hd := Int × Int × Int
abbrev hd0 : Hd := (0, 0, 0)
def ledOf (hs : List Hd) : Led := hs.map fun h => (h.1, Rat.divInt h.2.1 h.2.2)
def rawH (h : Int × Rat) : Hd := (h.1, h.2.num, (h.2.den : Int))
def rawL (L : Led) : List Hd := L.map rawH
/-- the numbers of holdings, one after the other -/
def flatH : List Hd → List Int
  | [] => []
  | h :: t => h.1 :: h.2.1 :: h.2.2 :: flatH t
theorem flat_len : ∀ hs : List Hd, (flatH hs).length = hs.length * 3 := by
  intro hs
  induction hs with
  | nil => rfl
  | cons h t ih => show (flatH t).length + 1 + 1 + 1 = (t.length + 1) * 3; rw [ih]; omega
theorem flat_append : ∀ a b : List Hd, flatH (a ++ b) = flatH a ++ flatH b := by
  intro a b
  induction a with
  | nil => rfl
  | cons h t ih => show h.1 :: h.2.1 :: h.2.2 :: flatH (t ++ b) = _; rw [ih]; rfl
theorem flat_get : ∀ (hs : List Hd) (k : Nat), k < hs.length → (flatH hs).getD (k * 3) 0 = (hs.getD k hd0).1 ∧ (flatH hs).getD (k * 3 + 1) 0 = (hs.getD k hd0).2.1 ∧ (flatH hs).getD (k * 3 + 2) 0 = (hs.getD k hd0).2.2 := by
  intro hs
  induction hs with
  | nil => intro k h; simp at h
  | cons h t ih =>
    intro k hk
    cases k with
    | zero => exact ⟨rfl, rfl, rfl⟩
    | succ k =>
      have := ih k (by simpa using hk)
      rw [show (k + 1) * 3 = k * 3 + 1 + 1 + 1 from by omega]
      exact this
theorem flat_take (hs : List Hd) (k : Nat) : (flatH hs).take (k * 3) = flatH (hs.take k) := by
  induction hs generalizing k with
  | nil => simp [flatH]
  | cons h t ih =>
    cases k with
    | zero => rfl
    | succ k =>
      rw [show (k + 1) * 3 = k * 3 + 1 + 1 + 1 from by omega]
      show h.1 :: h.2.1 :: h.2.2 :: (flatH t).take (k * 3) = _
      rw [ih]; rfl
theorem flat_drop (hs : List Hd) (k : Nat) : (flatH hs).drop (k * 3) = flatH (hs.drop k) := by
  induction hs generalizing k with
  | nil => simp [flatH]
  | cons h t ih =>
    cases k with
    | zero => rfl
    | succ k =>
      rw [show (k + 1) * 3 = k * 3 + 1 + 1 + 1 from by omega]
      show (flatH t).drop (k * 3) = _
      rw [ih]; rfl
theorem getD_lt {α : Type} (l : List α) {k : Nat} (h : k < l.length) (d : α) : l.getD k d = l[k] := by
  rw [List.getD_eq_getElem?_getD, List.getElem?_eq_getElem h]; rfl
theorem take_snocD {α : Type} (l : List α) {k : Nat} (h : k < l.length) (d : α) : l.take (k + 1) = l.take k ++ [l.getD k d] := by
  rw [List.take_succ_eq_append_getElem h, getD_lt l h]

theorem led_len (hs : List Hd) : (ledOf hs).length = hs.length := by unfold ledOf; simp
theorem led_raw (L : Led) : ledOf (rawL L) = L := by
  unfold ledOf rawL
  rw [List.map_map]
  conv => rhs; rw [← List.map_id L]
  refine List.map_congr_left fun h _ => ?_
  show (h.1, Rat.divInt h.2.num h.2.den) = h
  rw [q_mk]
theorem raw_len (L : Led) : (rawL L).length = L.length := by unfold rawL; simp
theorem raw_get (L : Led) {k : Nat} (h : k < L.length) : (rawL L).getD k hd0 = rawH (L.getD k (0, 0)) := by
  rw [getD_lt _ (by rw [raw_len]; exact h), getD_lt _ h]; unfold rawL; simp
theorem led_get (hs : List Hd) {k : Nat} (h : k < hs.length) : (ledOf hs).getD k (0, 0) = ((hs.getD k hd0).1, Rat.divInt (hs.getD k hd0).2.1 (hs.getD k hd0).2.2) := by
  rw [getD_lt _ (by rw [led_len]; exact h), getD_lt _ h]; unfold ledOf; simp
theorem raw_append (a b : Led) : rawL (a ++ b) = rawL a ++ rawL b := by unfold rawL; simp
theorem raw_take (a : Led) (k : Nat) : rawL (a.take k) = (rawL a).take k := by unfold rawL; simp
theorem raw_drop (a : Led) (k : Nat) : rawL (a.drop k) = (rawL a).drop k := by unfold rawL; simp

def prevO (hs : List Hd) (k : Nat) : Int := if k = 0 then 0 else (hs.getD (k - 1) hd0).1
def okA (hs : List Hd) (k : Nat) : Bool := decide (prevO hs k < (hs.getD k hd0).1) && decide (1 ≤ (hs.getD k hd0).1) && decide ((hs.getD k hd0).1 ≤ 999)
def ascB (hs : List Hd) : Bool := (List.range hs.length).all (okA hs)
def okF (hs : List Hd) (k : Nat) : Bool := Wsh.vfB (hs.getD k hd0).2.1 (hs.getD k hd0).2.2 && decide ((hs.getD k hd0).2.1 ≠ 0)
/-- the sum of the first shares -/
def sumQ (hs : List Hd) (k : Nat) : Rat := totL ((ledOf hs).take k)
def okS (hs : List Hd) (k : Nat) : Bool := okF hs k && frB (sumQ hs (k + 1))
def allS (hs : List Hd) : Bool := (List.range hs.length).all (okS hs)
def allF (hs : List Hd) : Bool := (List.range hs.length).all (okF hs)
/-- a valid ledger -/
def vlR (hs : List Hd) : Bool := decide (hs.length ≤ 12) && ascB hs && allS hs && decide (sumQ hs hs.length = 1)
theorem rng_all (n : Nat) (f : Nat → Bool) : (List.range n).all f = true ↔ ∀ j, j < n → f j = true := by
  rw [List.all_eq_true]; simp
theorem rng_no {n k : Nat} {f : Nat → Bool} (h : k < n) (hk : f k = false) : (List.range n).all f = false := by
  rw [Bool.eq_false_iff]; intro c; rw [rng_all] at c; rw [c k h] at hk; cases hk
theorem rng_yes {n : Nat} {f : Nat → Bool} (h : ∀ j, j < n → f j = true) : (List.range n).all f = true := (rng_all n f).2 h
theorem rng_more {k : Nat} {f : Nat → Bool} (h : ∀ j, j < k → f j = true) (hk : f k = true) : ∀ j, j < k + 1 → f j = true := fun j hj => by
  by_cases e : j = k
  · subst e; exact hk
  · exact h j (by omega)

theorem okF_is {hs : List Hd} {k : Nat} (h : okF hs k = true) : Wsh.vfB (hs.getD k hd0).2.1 (hs.getD k hd0).2.2 = true ∧ (hs.getD k hd0).2.1 ≠ 0 := by
  unfold okF at h; simpa using h
theorem okF_no1 {hs : List Hd} {k : Nat} (h : Wsh.vfB (hs.getD k hd0).2.1 (hs.getD k hd0).2.2 = false) : okF hs k = false := by unfold okF; rw [h]; rfl
theorem okF_no2 {hs : List Hd} {k : Nat} (h : (hs.getD k hd0).2.1 = 0) : okF hs k = false := by unfold okF; rw [h]; simp
theorem okF_yes {hs : List Hd} {k : Nat} (h : Wsh.vfB (hs.getD k hd0).2.1 (hs.getD k hd0).2.2 = true) (h2 : (hs.getD k hd0).2.1 ≠ 0) : okF hs k = true := by unfold okF; rw [h]; simpa using h2
theorem okS_no {hs : List Hd} {k : Nat} (h : okF hs k = false) : okS hs k = false := by unfold okS; rw [h]; rfl
theorem okS_no2 {hs : List Hd} {k : Nat} (h : frB (sumQ hs (k + 1)) = false) : okS hs k = false := by unfold okS; rw [h]; simp
theorem okS_yes {hs : List Hd} {k : Nat} (h : okF hs k = true) (h2 : frB (sumQ hs (k + 1)) = true) : okS hs k = true := by unfold okS; rw [h, h2]; rfl
theorem okS_is {hs : List Hd} {k : Nat} (h : okS hs k = true) : okF hs k = true ∧ frB (sumQ hs (k + 1)) = true := by unfold okS at h; simpa using h
theorem sum_zero (hs : List Hd) : sumQ hs 0 = 0 := rfl
theorem sum_succ {hs : List Hd} {k : Nat} (h : k < hs.length) : sumQ hs (k + 1) = sumQ hs k + Rat.divInt (hs.getD k hd0).2.1 (hs.getD k hd0).2.2 := by
  unfold sumQ
  rw [take_snocD (ledOf hs) (by rw [led_len]; exact h) (0, 0), tot_append, led_get hs h]
  show _ + (Rat.divInt _ _ + 0) = _
  grind
/-- a sum as the program makes it -/
theorem sum_red {hs : List Hd} {k : Nat} (h : k < hs.length) (hv : Wsh.vfB (hs.getD k hd0).2.1 (hs.getD k hd0).2.2 = true) :
    Wsh.redB ((sumQ hs k).num * (hs.getD k hd0).2.2 + (hs.getD k hd0).2.1 * (sumQ hs k).den) ((sumQ hs k).den * (hs.getD k hd0).2.2) = frB (sumQ hs (k + 1)) ∧
    Wsh.rn ((sumQ hs k).num * (hs.getD k hd0).2.2 + (hs.getD k hd0).2.1 * (sumQ hs k).den) ((sumQ hs k).den * (hs.getD k hd0).2.2) = (sumQ hs (k + 1)).num ∧
    Wsh.rd ((sumQ hs k).num * (hs.getD k hd0).2.2 + (hs.getD k hd0).2.1 * (sumQ hs k).den) ((sumQ hs k).den * (hs.getD k hd0).2.2) = ((sumQ hs (k + 1)).den : Int) := by
  obtain ⟨a, b, _⟩ := vf_q hv
  have := add_red (sumQ hs k) (Rat.divInt (hs.getD k hd0).2.1 (hs.getD k hd0).2.2)
  rw [a, b, ← sum_succ h] at this
  exact this
theorem one_iff {q : Rat} : q = 1 ↔ q.num = (q.den : Int) := by
  constructor
  · rintro rfl; rfl
  · intro h
    have := q_mk q
    rw [h, Rat.divInt_self' (by have := den_pos q; omega)] at this
    exact this.symm
theorem asc_is {hs : List Hd} (h : ascB hs = true) : Asc (ledOf hs) ∧ ∀ x ∈ ledOf hs, 1 ≤ x.1 ∧ x.1 ≤ 999 := by
  unfold ascB at h
  rw [rng_all] at h
  have h1 : ∀ k, k < hs.length → prevO hs k < (hs.getD k hd0).1 ∧ 1 ≤ (hs.getD k hd0).1 ∧ (hs.getD k hd0).1 ≤ 999 := fun k hk => by
    have := h k hk; unfold okA at this; simp only [Bool.and_eq_true, decide_eq_true_eq] at this; exact ⟨this.1.1, this.1.2, this.2⟩
  have mono : ∀ n i, i + n + 1 < hs.length → (hs.getD i hd0).1 < (hs.getD (i + n + 1) hd0).1 := by
    intro n
    induction n with
    | zero =>
      intro i hi
      have := (h1 (i + 1) hi).1
      unfold prevO at this
      rw [if_neg (by omega)] at this
      exact this
    | succ n ih =>
      intro i hi
      have a := ih i (by omega)
      have := (h1 (i + (n + 1) + 1) hi).1
      unfold prevO at this
      rw [if_neg (by omega), show i + (n + 1) + 1 - 1 = i + n + 1 from by omega] at this
      omega
  refine ⟨?_, ?_⟩
  · unfold Asc
    rw [List.pairwise_iff_getElem]
    intro i j hi hj hij
    rw [led_len] at hi hj
    have a := mono (j - i - 1) i (by omega)
    rw [show i + (j - i - 1) + 1 = j from by omega] at a
    rw [← getD_lt (ledOf hs) (by rw [led_len]; exact hi) (0, 0), ← getD_lt (ledOf hs) (by rw [led_len]; exact hj) (0, 0), led_get hs hi, led_get hs hj]
    exact a
  · intro x hx
    obtain ⟨i, hi, rfl⟩ := List.getElem_of_mem hx
    rw [← getD_lt (ledOf hs) hi (0, 0), led_get hs (by rw [led_len] at hi; exact hi)]
    exact (h1 i (by rw [led_len] at hi; exact hi)).2
theorem frac_is {hs : List Hd} (h : allF hs = true) : rawL (ledOf hs) = hs ∧ Pos (ledOf hs) ∧ ∀ x ∈ ledOf hs, frB x.2 = true := by
  unfold allF at h
  rw [rng_all] at h
  have h1 : ∀ x ∈ hs, Wsh.vfB x.2.1 x.2.2 = true ∧ x.2.1 ≠ 0 := fun x hx => by
    obtain ⟨i, hi, rfl⟩ := List.getElem_of_mem hx
    have := okF_is (h i hi)
    rwa [getD_lt _ hi] at this
  refine ⟨?_, ?_, ?_⟩
  · unfold rawL ledOf
    rw [List.map_map]
    conv => rhs; rw [← List.map_id hs]
    refine List.map_congr_left fun x hx => ?_
    obtain ⟨a, b, _⟩ := vf_q (h1 x hx).1
    show (x.1, (Rat.divInt x.2.1 x.2.2).num, ((Rat.divInt x.2.1 x.2.2).den : Int)) = x
    rw [a, b]
  · intro x hx
    unfold ledOf at hx
    obtain ⟨y, hy, rfl⟩ := List.mem_map.1 hx
    obtain ⟨a, b, c⟩ := vf_q (h1 y hy).1
    have := frB_nonneg c
    have hn : Rat.divInt y.2.1 y.2.2 ≠ 0 := fun e => (h1 y hy).2 (by rw [← a]; exact (num_zero _).2 e)
    show 0 < Rat.divInt y.2.1 y.2.2
    grind
  · intro x hx
    unfold ledOf at hx
    obtain ⟨y, hy, rfl⟩ := List.mem_map.1 hx
    exact (vf_q (h1 y hy).1).2.2
theorem all_frac {hs : List Hd} (h : allS hs = true) : allF hs = true := by
  unfold allS at h; unfold allF; rw [rng_all] at h ⊢; exact fun j hj => (okS_is (h j hj)).1
theorem vlR_is {hs : List Hd} (h : vlR hs = true) : rawL (ledOf hs) = hs ∧ VL (ledOf hs) := by
  unfold vlR at h
  simp only [Bool.and_eq_true, decide_eq_true_eq] at h
  obtain ⟨⟨⟨h1, h2⟩, h3⟩, h4⟩ := h
  obtain ⟨f1, f2, f3⟩ := frac_is (all_frac h3)
  obtain ⟨a1, a2⟩ := asc_is h2
  refine ⟨f1, ⟨by rw [led_len]; exact h1, a2, f3, f2, a1, fun k hk => ?_, ?_⟩⟩
  · cases k with
    | zero => exact frB_zero
    | succ k =>
      unfold allS at h3; rw [rng_all] at h3
      rw [led_len] at hk
      exact (okS_is (h3 k hk)).2
  · have := h4
    unfold sumQ at this
    rwa [List.take_of_length_le (by rw [led_len]; exact Nat.le_refl _)] at this
theorem vlR_raw {L : Led} (h : VL L) : vlR (rawL L) = true := by
  have get : ∀ k, k < L.length → (rawL L).getD k hd0 = rawH L[k]! := fun k hk => by
    rw [raw_get L hk, getD_lt _ hk, List.getElem!_eq_getElem?_getD, List.getElem?_eq_getElem hk]; rfl
  unfold vlR
  simp only [Bool.and_eq_true, decide_eq_true_eq]
  refine ⟨⟨⟨by rw [raw_len]; exact h.len, ?_⟩, ?_⟩, ?_⟩
  · refine rng_yes fun k hk => ?_
    rw [raw_len] at hk
    unfold okA
    simp only [Bool.and_eq_true, decide_eq_true_eq]
    have o := h.own _ (List.getElem_mem hk)
    rw [raw_get L hk, getD_lt _ hk]
    refine ⟨⟨?_, o.1⟩, o.2⟩
    unfold prevO
    by_cases e : k = 0
    · rw [if_pos e]; exact Int.lt_of_lt_of_le (by decide) o.1
    · rw [if_neg e, raw_get L (by omega), getD_lt _ (by omega)]
      exact (List.pairwise_iff_getElem.1 h.asc) (k - 1) k (by omega) hk (by omega)
  · refine rng_yes fun k hk => ?_
    rw [raw_len] at hk
    refine okS_yes (okF_yes ?_ ?_) ?_
    · rw [raw_get L hk, getD_lt _ hk]; exact q_vf (h.fr _ (List.getElem_mem hk))
    · rw [raw_get L hk, getD_lt _ hk]
      have := h.pos _ (List.getElem_mem hk)
      intro c
      rw [(num_zero _).1 c] at this
      exact absurd this (by decide)
    · unfold sumQ; rw [led_raw]; exact h.sums _ (by omega)
  · unfold sumQ; rw [led_raw, raw_len, List.take_of_length_le (Nat.le_refl _)]; exact h.one
theorem vlR_vl (L : Led) : vlR (rawL L) = vlB L := by
  rw [Bool.eq_iff_iff, vl_iff]
  refine ⟨fun h => ?_, vlR_raw⟩
  have := (vlR_is h).2
  rwa [led_raw] at this
/-- the share of an owner as it lies in memory -/
def shR : List Hd → Int → Int × Int
  | [], _ => (0, 1)
  | h :: t, o => if h.1 = o then h.2 else shR t o
theorem shR_raw (L : Led) (o : Int) : shR (rawL L) o = ((shareL L o).num, ((shareL L o).den : Int)) := by
  induction L with
  | nil => rfl
  | cons h t ih =>
    show (if h.1 = o then (h.2.num, (h.2.den : Int)) else shR (rawL t) o) = _
    show _ = ((if h.1 = o then h.2 else shareL t o).num, ((if h.1 = o then h.2 else shareL t o).den : Int))
    by_cases e : h.1 = o
    · rw [if_pos e, if_pos e]
    · rw [if_neg e, if_neg e]; exact ih
theorem shR_at {hs : List Hd} {o : Int} {k : Nat} (hk : k < hs.length) (h : ∀ j, j < k → (hs.getD j hd0).1 ≠ o) (he : (hs.getD k hd0).1 = o) : shR hs o = (hs.getD k hd0).2 := by
  induction hs generalizing k with
  | nil => simp at hk
  | cons x t ih =>
    show (if x.1 = o then x.2 else shR t o) = _
    cases k with
    | zero => have he : x.1 = o := he
              rw [if_pos he]; rfl
    | succ k =>
      have h0 : x.1 ≠ o := h 0 (by omega)
      rw [if_neg h0]
      exact ih (by simpa using hk) (fun j hj => h (j + 1) (by omega)) he
theorem shR_none {hs : List Hd} {o : Int} (h : ∀ j, j < hs.length → (hs.getD j hd0).1 ≠ o) : shR hs o = (0, 1) := by
  induction hs with
  | nil => rfl
  | cons x t ih =>
    show (if x.1 = o then x.2 else shR t o) = _
    have h0 : x.1 ≠ o := h 0 (by simp)
    rw [if_neg h0]
    exact ih (fun j hj => h (j + 1) (by simpa using hj))
end Go.Proofs.Ythagafkjlecagaa
namespace Go.Proofs.Ythagafkjlecagaa

/-- what is left out behind the place of an owner -/
def skipL (L : Led) (o : Int) (k : Nat) : Nat := if k < L.length ∧ (L.getD k (0, 0)).1 = o then k + 1 else k
theorem filter_far {L : Led} {o : Int} (h : ∀ x ∈ L, x.1 ≠ o) : L.filter (fun h => decide (h.1 ≠ o)) = L := by
  rw [List.filter_eq_self]; intro a ha; simpa using h a ha
/-- the program's way: the first ones of lesser owners, the holding, and the others -/
theorem with_set {L : Led} (ha : Asc L) (o : Int) (q : Rat) : ∀ {k : Nat}, k ≤ L.length → (∀ j, j < k → (L.getD j (0, 0)).1 < o) → (k < L.length → o ≤ (L.getD k (0, 0)).1) →
    setL L o q = L.take k ++ (if q = 0 then [] else [(o, q)]) ++ L.drop (skipL L o k) := by
  have tail : ∀ {h : Int × Rat} {t : Led}, Asc (h :: t) → o ≤ h.1 → (h :: t).filter (fun h => decide (h.1 ≠ o)) = (h :: t).drop (skipL (h :: t) o 0) := by
    intro h t ha ho
    have h1 := List.pairwise_cons.1 ha
    have ht : t.filter (fun h => decide (h.1 ≠ o)) = t := filter_far (fun x hx => by have := h1.1 x hx; omega)
    by_cases e : h.1 = o
    · rw [show skipL (h :: t) o 0 = 1 from by unfold skipL; rw [if_pos ⟨by simp, e⟩], List.filter_cons_of_neg (by simp [e]), ht]; rfl
    · rw [show skipL (h :: t) o 0 = 0 from by unfold skipL; rw [if_neg (fun c => e c.2)], List.filter_cons_of_pos (by simp [e]), ht]; rfl
  induction L with
  | nil =>
    intro k hk _ _
    obtain rfl : k = 0 := by simpa using hk
    by_cases hq : q = 0
    · rw [hq, setL_zero]; rfl
    · rw [setL_ins hq, if_neg hq]; rfl
  | cons h t ih =>
    intro k hk h1 h2
    have hp := List.pairwise_cons.1 ha
    cases k with
    | zero =>
      have ho : o ≤ h.1 := h2 (by simp)
      by_cases hq : q = 0
      · rw [hq, setL_zero, tail ha ho, if_pos rfl]; rfl
      · rw [setL_ins hq, if_neg hq]
        show (if o ≤ h.1 then _ else _) = _
        rw [if_pos ho, tail ha ho]; rfl
    | succ k =>
      have ho : h.1 < o := h1 0 (by omega)
      have := ih hp.2 (k := k) (by simpa using hk) (fun j hj => h1 (j + 1) (by omega)) (fun hl => h2 (by simpa using hl))
      have es : skipL (h :: t) o (k + 1) = skipL t o k + 1 := by
        have eg : (h :: t).getD (k + 1) (0, 0) = t.getD k (0, 0) := rfl
        unfold skipL
        rw [eg]
        by_cases c : k < t.length ∧ (t.getD k (0, 0)).1 = o
        · rw [if_pos c, if_pos ⟨by have := c.1; simpa using this, c.2⟩]
        · rw [if_neg c, if_neg (fun d => c ⟨by simpa using d.1, d.2⟩)]
      rw [es]
      show _ = h :: (t.take k ++ _ ++ t.drop (skipL t o k))
      rw [← this]
      by_cases hq : q = 0
      · rw [hq, setL_zero, setL_zero, List.filter_cons_of_pos (by simp; omega)]
      · rw [setL_ins hq, setL_ins hq]
        show (if o ≤ h.1 then _ else _) = _
        rw [if_neg (by omega)]

/-- the model's loop, up to k -/
def setTo (L : Led) (o : Int) (q : Rat) (k : Nat) : Led × Bool := setP o q (decide (q = 0)) (L.take k)
theorem setTo_zero (L : Led) (o : Int) (q : Rat) : setTo L o q 0 = ([], decide (q = 0)) := rfl
theorem setTo_succ {L : Led} (o : Int) (q : Rat) {k : Nat} (h : k < L.length) :
    setTo L o q (k + 1) = ((setTo L o q k).1 ++ ((if !(setTo L o q k).2 && decide (o ≤ (L.getD k (0, 0)).1) then [(o, q)] else []) ++ (if (L.getD k (0, 0)).1 ≠ o then [L.getD k (0, 0)] else [])), (setTo L o q k).2 || decide (o ≤ (L.getD k (0, 0)).1)) := by
  unfold setTo
  rw [take_snocD L h (0, 0), setP_append]
  simp [setP]
theorem setTo_end (L : Led) (o : Int) (q : Rat) : setL L o q = (setTo L o q L.length).1 ++ (if (setTo L o q L.length).2 then [] else [(o, q)]) := by
  unfold setTo setL
  rw [List.take_of_length_le (Nat.le_refl _)]
theorem setTo_len (L : Led) (o : Int) (q : Rat) : ∀ k, k ≤ L.length → (setTo L o q k).1.length ≤ 2 * k := by
  intro k
  induction k with
  | zero => intro _; simp [setTo_zero]
  | succ k ih =>
    intro h
    have := ih (by omega)
    rw [setTo_succ o q (by omega)]
    simp only [List.length_append]
    have a : (if !(setTo L o q k).2 && decide (o ≤ (L.getD k (0, 0)).1) then [(o, q)] else [] : Led).length ≤ 1 := by split <;> simp
    have b : (if (L.getD k (0, 0)).1 ≠ o then [L.getD k (0, 0)] else [] : Led).length ≤ 1 := by split <;> simp
    omega
/-- the numbers of a share that is set, or none -/
def shareIs (n d : Int) (q : Rat) : Prop := (n = q.num ∧ d = (q.den : Int)) ∨ (n = 0 ∧ q = 0)
theorem shareIs_zero {n d : Int} {q : Rat} (h : shareIs n d q) : decide (q = 0) = decide (n = 0) := by
  rcases h with ⟨h, _⟩ | ⟨h, h2⟩
  · rw [h, decide_eq_decide]; exact (num_zero q).symm
  · rw [h, h2]; rfl
theorem shareIs_raw {n d : Int} {q : Rat} (h : shareIs n d q) (hq : q ≠ 0) (o : Int) : rawH (o, q) = (o, n, d) := by
  rcases h with ⟨h, h1⟩ | ⟨h, h2⟩
  · rw [h, h1]; rfl
  · exact absurd h2 hq
theorem share_ok (b : Bool) (q : Rat) : shareIs (Wsh.qn b q.num) (Wsh.qn b (q.den : Int)) (if b then q else 0) := by
  cases b with
  | true => exact .inl ⟨rfl, rfl⟩
  | false => exact .inr ⟨rfl, rfl⟩
theorem share_no : shareIs 0 1 0 := .inl ⟨rfl, rfl⟩
theorem fr_set {L : Led} (h : ∀ x ∈ L, frB x.2 = true) (o : Int) {q : Rat} (hq : frB q = true) : ∀ x ∈ setL L o q, frB x.2 = true := by
  by_cases e : q = 0
  · rw [e, setL_zero]; exact fun x hx => h x (List.mem_filter.1 hx).1
  · rw [setL_ins e]
    intro x hx
    rcases ins_mem hx with rfl | hx
    · exact hq
    · exact h x hx
theorem share_frA {L : Led} (h : ∀ x ∈ L, frB x.2 = true) (o : Int) : frB (shareL L o) = true := by
  by_cases e : shareL L o = 0
  · rw [e]; exact frB_zero
  · obtain ⟨x, hx, _, h2⟩ := share_mem e
    rw [← h2]; exact h x hx
theorem set_len {L : Led} (o : Int) (q : Rat) : (setL L o q).length ≤ L.length + 1 := by
  by_cases e : q = 0
  · rw [e, setL_zero]; have := List.length_filter_le (fun h : Int × Rat => decide (h.1 ≠ o)) L; omega
  · rw [setL_ins e]
    induction L with
    | nil => simp [insL]
    | cons h t ih =>
      unfold insL
      split
      · have := List.length_filter_le (fun h : Int × Rat => decide (h.1 ≠ o)) (h :: t); simp only [List.length_cons] at this ⊢; omega
      · simp only [List.length_cons]; omega
end Go.Proofs.Ythagafkjlecagaa
namespace Go.Proofs.Ythagafkjlecagaa

/-- the text of a ledger, "" if it is not valid -/
def flT (hs : List Hd) : ByteArray := if vlR hs then txt (textB hs) else { data := #[] }
theorem fl_no {hs : List Hd} (h : vlR hs = false) : flT hs = { data := #[] } := by unfold flT; rw [h]; rfl
theorem fl_yes {hs : List Hd} (h : vlR hs = true) : flT hs = txt (textB hs) := by unfold flT; rw [h]; rfl
/-- the text of the first k lines -/
def ltk (hs : List Hd) (k : Nat) : List UInt8 := textB (hs.take k)
theorem ltk_zero (hs : List Hd) : ltk hs 0 = [] := by unfold ltk; rw [List.take_zero]; rfl
theorem ltk_all (hs : List Hd) : ltk hs hs.length = textB hs := by unfold ltk; rw [List.take_length]
theorem ltk_next {hs : List Hd} {k : Nat} (h : k < hs.length) {o n d : Int} (e : hs.getD k hd0 = (o, n, d)) :
    ltk hs (k + 1) = (((ltk hs k ++ decL o.toNat) ++ [32]) ++ (decL n.toNat ++ 47 :: decL d.toNat)) ++ [10] := by
  unfold ltk
  rw [take_snocD hs h hd0, text_app, e]
  show _ ++ (lineB o n d ++ [10] ++ []) = _
  unfold lineB
  rw [frT_list]
  simp
theorem dec_small {n : Int} (h : n ≤ 10000) : (decL n.toNat).length ≤ 8 := dec_len 7 n.toNat (by omega)
/-- what a valid ledger says of one holding -/
theorem vl_at {hs : List Hd} (h : vlR hs = true) {k : Nat} (hk : k < hs.length) : 1 ≤ (hs.getD k hd0).1 ∧ (hs.getD k hd0).1 ≤ 999 ∧ Wsh.vfB (hs.getD k hd0).2.1 (hs.getD k hd0).2.2 = true := by
  unfold vlR at h
  simp only [Bool.and_eq_true, decide_eq_true_eq] at h
  obtain ⟨⟨⟨_, h2⟩, h3⟩, _⟩ := h
  have a := (rng_all _ _).1 h2 k hk
  have b := (okF_is (okS_is ((rng_all _ _).1 h3 k hk)).1).1
  unfold okA at a
  simp only [Bool.and_eq_true, decide_eq_true_eq] at a
  exact ⟨a.1.2, a.2, b⟩
theorem vl_len {hs : List Hd} (h : vlR hs = true) : hs.length ≤ 12 := by
  unfold vlR at h
  simp only [Bool.and_eq_true, decide_eq_true_eq] at h
  exact h.1.1.1
theorem ltk_len {hs : List Hd} (h : vlR hs = true) : ∀ k, k ≤ hs.length → (ltk hs k).length ≤ k * 32 := by
  intro k
  induction k with
  | zero => intro _; rw [ltk_zero]; simp
  | succ k ih =>
    intro hk
    have i := ih (by omega)
    obtain ⟨a, b, c⟩ := vl_at h (k := k) (by omega)
    rw [Wsh.vfB_iff] at c
    rw [ltk_next (o := (hs.getD k hd0).1) (n := (hs.getD k hd0).2.1) (d := (hs.getD k hd0).2.2) (by omega) rfl]
    have l1 := dec_small (n := (hs.getD k hd0).1) (by omega)
    have l2 := dec_small (n := (hs.getD k hd0).2.1) (by omega)
    have l3 := dec_small (n := (hs.getD k hd0).2.2) (by omega)
    simp only [List.length_append, List.length_cons, List.length_nil]
    omega
/-- a valid ledger has a line -/
theorem text_ne {hs : List Hd} (h : vlR hs = true) : textB hs ≠ [] := by
  cases hs with
  | nil => exact absurd (vlR_is h).2.one (by decide)
  | cons x t =>
    show lineB x.1 x.2.1 x.2.2 ++ [10] ++ _ ≠ []
    simp
end Go.Proofs.Ythagafkjlecagaa
namespace Go.Proofs.Ythagafkjlecagaa

/-- the lines of a text that end -/
def lnA (s : ByteArray) : List ByteArray := (cutTo 10 s s.size).1
/-- the two words of a line -/
def wA (l : ByteArray) : ByteArray := l.extract 0 (idxI 32 l).toNat
def wB (l : ByteArray) : ByteArray := l.extract ((idxI 32 l).toNat + 1) l.size
def hokB (l : ByteArray) : Bool := decide (0 ≤ idxI 32 l) && pok (wB l)
def hdS (lim : Nat) (l : ByteArray) : Hd := (rdS lim (wA l), pnum (wB l), pden (wB l))
def plL (s : ByteArray) : List Hd := (lnA s).map (hdS 1000000)
/-- whether a text is one of a ledger -/
def plB (s : ByteArray) : Bool := decide ((cutTo 10 s s.size).2 = s.size) && (lnA s).all hokB && vlR (plL s)
theorem cut_pre (c : Int) (s : ByteArray) : ∀ n k, ∃ Q, (cutTo c s (k + n)).1 = (cutTo c s k).1 ++ Q := by
  intro n
  induction n with
  | zero => intro k; exact ⟨[], by simp⟩
  | succ n ih =>
    intro k
    obtain ⟨Q, h⟩ := ih k
    rw [show k + (n + 1) = k + n + 1 by omega]
    by_cases e : bt s (k + n) = c
    · rw [cutTo_hit e, h]; exact ⟨Q ++ [s.extract (cutTo c s (k + n)).2 (k + n)], by simp⟩
    · rw [cutTo_miss e]; exact ⟨Q, h⟩
theorem cut_pre_all {c : Int} {s : ByteArray} {k : Nat} (h : k ≤ s.size) : ∃ Q, (cutTo c s s.size).1 = (cutTo c s k).1 ++ Q := by
  have := cut_pre c s (s.size - k) k
  rw [show k + (s.size - k) = s.size by omega] at this
  exact this
/-- a line is read -/
theorem cut_hit {c : Int} {s : ByteArray} {p e : Nat} {P : List ByteArray} (h : cutTo c s p = (P, p)) (h1 : bt s (p + e) = c) (h2 : ∀ j, p ≤ j → j < p + e → bt s j ≠ c) : cutTo c s (p + e + 1) = (P ++ [s.extract p (p + e)], p + e + 1) := by
  rw [cutTo_hit h1, cut_quiet e p h2, h]
theorem pl_no1 {s : ByteArray} {p : Nat} {P : List ByteArray} (h : cutTo 10 s p = (P, p)) (hp : p < s.size) (h2 : ∀ j, p ≤ j → j < s.size → bt s j ≠ 10) : plB s = false := by
  have := cut_quiet (c := 10) (s := s) (s.size - p) p (fun j a b => h2 j a (by omega))
  rw [show p + (s.size - p) = s.size by omega, h] at this
  unfold plB
  rw [this, decide_eq_false (by show ¬ p = s.size; omega)]; rfl
theorem pl_no2 {s : ByteArray} {p : Nat} (hp : p ≤ s.size) (h : 12 < (cutTo 10 s p).1.length) : plB s = false := by
  obtain ⟨Q, hQ⟩ := cut_pre_all (c := 10) hp
  cases e : plB s with
  | false => rfl
  | true =>
    unfold plB at e
    simp only [Bool.and_eq_true] at e
    have := vl_len e.2
    unfold plL lnA at this
    rw [hQ] at this
    simp at this; omega
theorem pl_no3 {s : ByteArray} {p : Nat} {l : ByteArray} (hp : p ≤ s.size) (hl : l ∈ (cutTo 10 s p).1) (h : hokB l = false) : plB s = false := by
  obtain ⟨Q, hQ⟩ := cut_pre_all (c := 10) hp
  cases e : plB s with
  | false => rfl
  | true =>
    unfold plB at e
    simp only [Bool.and_eq_true] at e
    have := List.all_eq_true.1 e.1.2 l (by unfold lnA; rw [hQ]; exact List.mem_append.2 (.inl hl))
    rw [h] at this; cases this
theorem rd_two (l : ByteArray) : rdS 10000000 l = rdS 1000000 l ∨ (1000000 ≤ rdS 10000000 l ∧ rdS 1000000 l = -1) := rd_lim l.data.toList
theorem hd_two (P : List ByteArray) : vlR (P.map (hdS 10000000)) = vlR (P.map (hdS 1000000)) ∧ (vlR (P.map (hdS 1000000)) = true → P.map (hdS 10000000) = P.map (hdS 1000000)) := by
  by_cases h : ∀ l ∈ P, rdS 10000000 (wA l) = rdS 1000000 (wA l)
  · have : P.map (hdS 10000000) = P.map (hdS 1000000) := List.map_congr_left (fun l hl => by unfold hdS; rw [h l hl])
    exact ⟨by rw [this], fun _ => this⟩
  · have : ∃ l, l ∈ P ∧ ¬ rdS 10000000 (wA l) = rdS 1000000 (wA l) := by
      apply Classical.byContradiction
      intro c
      exact h (fun l hl => Classical.byContradiction fun d => c ⟨l, hl, d⟩)
    obtain ⟨l, hl, hd⟩ := this
    obtain ⟨k, hk, rfl⟩ := List.getElem_of_mem hl
    rcases rd_two (wA P[k]) with e | ⟨e1, e2⟩
    · exact absurd e hd
    · have no : ∀ lim, (rdS lim (wA P[k]) = -1 ∨ 1000000 ≤ rdS lim (wA P[k])) → vlR (P.map (hdS lim)) = false := fun lim c => by
        cases e : vlR (P.map (hdS lim)) with
        | false => rfl
        | true =>
          have hk2 : k < (P.map (hdS lim)).length := by simpa using hk
          obtain ⟨a, b, _⟩ := vl_at e hk2
          rw [getD_lt _ hk2, List.getElem_map] at a b
          unfold hdS at a b
          dsimp only at a b
          omega
      rw [no 10000000 (.inr e1), no 1000000 (.inl e2)]
      exact ⟨rfl, fun c => by cases c⟩
theorem pl_end {s : ByteArray} {P : List ByteArray} (h : cutTo 10 s s.size = (P, s.size)) (hP : ∀ l ∈ P, hokB l = true) : plB s = vlR (P.map (hdS 1000000)) ∧ plL s = P.map (hdS 1000000) := by
  have e : plL s = P.map (hdS 1000000) := by unfold plL lnA; rw [h]
  refine ⟨?_, e⟩
  unfold plB
  rw [e]
  unfold lnA
  rw [h, decide_eq_true rfl, List.all_eq_true.2 hP]; rfl
/-- bytes of what is left -/
theorem bt_rest {s : ByteArray} {p j : Nat} (h : p + j < s.size) : bt (s.extract p s.size) j = bt s (p + j) := bt_ext s p s.size j h
theorem rest_size (s : ByteArray) (p : Nat) : (s.extract p s.size).size = s.size - p := by simp
theorem rest_idx (s : ByteArray) (p : Nat) : (∃ e, p + e < s.size ∧ bt s (p + e) = 10 ∧ (∀ j, p ≤ j → j < p + e → bt s j ≠ 10) ∧ idxI 10 (s.extract p s.size) = e) ∨ ((∀ j, p ≤ j → j < s.size → bt s j ≠ 10) ∧ idxI 10 (s.extract p s.size) = -1) := by
  rcases idx_or 10 (s.extract p s.size) with ⟨k, h1, h2, h3, h4⟩ | ⟨h1, h2⟩
  · rw [rest_size s p] at h1
    rw [bt_rest (by omega)] at h2
    refine .inl ⟨k, by omega, h2, fun j a b => ?_, h4⟩
    have := h3 (j - p) (by omega)
    rw [bt_rest (by omega), show p + (j - p) = j by omega] at this
    exact this
  · refine .inr ⟨fun j a b => ?_, h2⟩
    have := h1 (j - p) (by rw [rest_size s p]; omega)
    rw [bt_rest (by omega), show p + (j - p) = j by omega] at this
    exact this
theorem ext_ext1 (s : ByteArray) {p e : Nat} (h : p + e ≤ s.size) : (s.extract p s.size).extract 0 e = s.extract p (p + e) := by
  rw [ByteArray.extract_extract, show min (p + e) s.size = p + e by omega]; rfl
theorem ext_ext2 (s : ByteArray) (p e : Nat) : (s.extract p s.size).extract (e + 1) (s.size - p) = s.extract (p + e + 1) s.size := by
  rw [ByteArray.extract_extract]; congr 1; omega
/-- a line of two words, as the model asks for -/
theorem hok_two {l : ByteArray} (h : hokB l = true) : cutS 32 l = [wA l, wB l] := by
  unfold hokB at h
  rw [Bool.and_eq_true, decide_eq_true_eq] at h
  obtain ⟨h0, hp⟩ := h
  rcases idx_or 32 l with ⟨k, h1, h2, h3, h4⟩ | ⟨_, h2⟩
  · have e : (idxI 32 l).toNat = k := by rw [h4]; simp
    have hw : wB l = l.extract (k + 1) l.size := by unfold wB; rw [e]
    have hno : ∀ j, k < j → j < l.size → bt l j ≠ 32 := fun j a b c => by
      have hb : bt (wB l) (j - (k + 1)) = 32 := by rw [hw, bt_ext _ _ _ _ (by omega), show k + 1 + (j - (k + 1)) = j by omega]; exact c
      have hs : j - (k + 1) < (wB l).data.toList.length := by rw [bt_len, hw]; simp; omega
      have hm : (32 : UInt8) ∈ (wB l).data.toList := by
        have : (wB l).data.toList[j - (k + 1)] = 32 := by
          unfold bt at hb
          rw [List.getD_eq_getElem?_getD, List.getElem?_eq_getElem hs, Option.getD_some] at hb
          exact UInt8.toNat_inj.1 (by show _ = 32; omega)
        rw [← this]; exact List.getElem_mem _
      rw [← fr_back hp] at hm
      exact frT_no (by decide) _ _ hm
    have := cut_one (c := 32) h1 h2 h3 hno
    rw [this, hw]; unfold wA; rw [e]
  · omega
/-- a line that is not of two words is none -/
theorem hok_no {l : ByteArray} (h : (cutS 32 l).length ≠ 2) : hokB l = false := by
  cases e : hokB l with
  | false => rfl
  | true => rw [hok_two e] at h; simp at h
/-- a line of two words -/
theorem two_words {l A B : ByteArray} (h : cutS 32 l = [A, B]) : hokB l = pok B ∧ (pok B = true → hdS 1000000 l = (rdS 1000000 A, pnum B, pden B)) := by
  have key : wA l = A ∧ wB l = B ∧ 0 ≤ idxI 32 l := by
    rcases idx_or 32 l with ⟨k, h1, h2, h3, h4⟩ | ⟨h1, h2⟩
    · have e : (idxI 32 l).toNat = k := by rw [h4]; simp
      have hno : ∀ j, k < j → j < l.size → bt l j ≠ 32 := fun j a b c => by
        have := cut_more h2 h3 a b c
        rw [show ((32 : Nat) : Int) = 32 from rfl, h] at this; simp at this
      have := cut_one (c := 32) h1 h2 h3 hno
      rw [h] at this
      simp only [List.cons.injEq, and_true] at this
      unfold wA wB
      rw [e]
      exact ⟨this.1.symm, this.2.symm, by rw [h4]; omega⟩
    · have := cut_none h1
      rw [show ((32 : Nat) : Int) = 32 from rfl, h] at this; simp at this
  obtain ⟨a, b, c⟩ := key
  unfold hokB hdS
  rw [a, b, decide_eq_true c]
  exact ⟨rfl, fun _ => rfl⟩
end Go.Proofs.Ythagafkjlecagaa
namespace Go.Proofs.Ythagafkjlecagaa
set_option linter.unusedSimpArgs false
set_option linter.unusedVariables false
theorem rest_ix (c : Nat) (s : ByteArray) (p : Nat) : (∃ e, p + e < s.size ∧ bt s (p + e) = c ∧ (∀ j, p ≤ j → j < p + e → bt s j ≠ c) ∧ idxI c (s.extract p s.size) = e) ∨ ((∀ j, p ≤ j → j < s.size → bt s j ≠ c) ∧ idxI c (s.extract p s.size) = -1) := by
  rcases idx_or c (s.extract p s.size) with ⟨k, h1, h2, h3, h4⟩ | ⟨h1, h2⟩
  · rw [rest_size s p] at h1
    rw [bt_rest (by omega)] at h2
    refine .inl ⟨k, by omega, h2, fun j a b => ?_, h4⟩
    have := h3 (j - p) (by omega)
    rw [bt_rest (by omega), show p + (j - p) = j by omega] at this
    exact this
  · refine .inr ⟨fun j a b => ?_, h2⟩
    have := h1 (j - p) (by rw [rest_size s p]; omega)
    rw [bt_rest (by omega), show p + (j - p) = j by omega] at this
    exact this
theorem cut_rest {c : Int} {s : ByteArray} {p : Nat} {P : List ByteArray} (h : cutTo c s p = (P, p)) (hp : p ≤ s.size) (h2 : ∀ j, p ≤ j → j < s.size → bt s j ≠ c) : cutS c s = P ++ [s.extract p s.size] := by
  have := cut_quiet (c := c) (s := s) (s.size - p) p (fun j a b => h2 j a (by omega))
  rw [show p + (s.size - p) = s.size by omega, h] at this
  unfold cutS; rw [this]
theorem cut_over {c : Int} {s : ByteArray} {k : Nat} {P : List ByteArray} (h : (cutTo c s k).1 = P) (hk : k ≤ s.size) : P.length < (cutS c s).length := by
  have a := cut_grows c s (s.size - k) k
  rw [show k + (s.size - k) = s.size by omega, h] at a
  unfold cutS; simp; omega
/-- fourteen words, the last with all the rest -/
theorem words_full {s : ByteArray} {p : Nat} {P : List ByteArray} (h : cutTo 32 s p = (P, p)) (hp : p ≤ s.size) (h13 : P.length = 13) : (cutS 32 s).length ≤ 14 → P ++ [s.extract p s.size] = cutS 32 s := by
  intro hl
  rcases rest_ix 32 s p with ⟨e, he, hb, hn, _⟩ | ⟨hn, _⟩
  · have := cut_over (c := 32) (s := s) (k := p + e + 1) (P := P ++ [s.extract p (p + e)]) (by rw [cut_hit h hb hn]) (by omega)
    simp at this; omega
  · exact (cut_rest h hp hn).symm
theorem hA_next {L : List ByteArray} {k : Nat} (h2 : 2 ≤ k) (hk : k < L.length) : hA (L.take (k + 1)) = hA (L.take k) ++ [nA L k] := by
  unfold hA nA
  rw [if_pos hk, List.take_add_one, List.drop_append_of_le_length (by rw [List.length_take]; omega), List.map_append, List.getD_eq_getElem?_getD, List.getElem?_eq_getElem hk]
  rfl
theorem hA_two (L : List ByteArray) : hA (L.take 2) = [] := by
  unfold hA
  rw [List.drop_eq_nil_of_le (by rw [List.length_take]; omega)]; rfl
theorem hA_all {L : List ByteArray} {k : Nat} (h : L.length ≤ k) : hA (L.take k) = hA L := by rw [List.take_of_length_le h]
theorem hA_len (L : List ByteArray) : (hA L).length = L.length - 2 := by unfold hA; simp
theorem nA_no {L : List ByteArray} {k : Nat} (h : ¬ k < L.length) : nA L k = -1 := by unfold nA; rw [if_neg h]
theorem nA_yes {L : List ByteArray} {k : Nat} (h : k < L.length) : nA L k = rdS 10000000 (L.getD k tE) := by unfold nA; rw [if_pos h]
theorem nA_bd (L : List ByteArray) (k : Nat) : -1 ≤ nA L k ∧ nA L k ≤ 10000000 := by
  unfold nA
  split
  · have := rdS_bd 10000000 (L.getD k tE); omega
  · omega
theorem pA_no {L : List ByteArray} {k : Nat} (h : ¬ k < L.length) : pA L k = (0, 0) := by unfold pA; rw [if_neg (fun c => h c.1)]
theorem pA_bad {L : List ByteArray} {k : Nat} (h : pok (L.getD k tE) = false) : pA L k = (0, 0) := by unfold pA; rw [if_neg (fun c => by rw [h] at c; cases c.2)]
theorem pA_yes {L : List ByteArray} {k : Nat} (h : k < L.length) (hp : pok (L.getD k tE) = true) : pA L k = (pnum (L.getD k tE), pden (L.getD k tE)) := by unfold pA; rw [if_pos ⟨h, hp⟩]
theorem getD_memS {L : List ByteArray} {k : Nat} (h : k < L.length) : L.getD k tE ∈ L := by
  rw [List.getD_eq_getElem?_getD, List.getElem?_eq_getElem h]; exact List.getElem_mem h
end Go.Proofs.Ythagafkjlecagaa
namespace Go.Proofs.Ythagafkjlecagaa
set_option linter.unusedSimpArgs false
set_option linter.unusedVariables false
theorem join_two (c : UInt8) (a b : List UInt8) : joinL c [a, b] = a ++ c :: b := by rw [join_cons c a (by simp)]; rfl
theorem join_three (c : UInt8) (a b d : List UInt8) : joinL c [a, b, d] = a ++ c :: (b ++ c :: d) := by rw [join_cons c a (by simp), join_two]
theorem join_four (c : UInt8) (a b d e : List UInt8) : joinL c [a, b, d, e] = a ++ c :: (b ++ c :: (d ++ c :: e)) := by rw [join_cons c a (by simp), join_three]
/-- a number behind a space -/
def spT (n : Int) : List UInt8 := 32 :: nT n
/-- the text of what is inherited, up to heir k -/
def hrT (o : Int) (zs : List Int) (k : Nat) : List UInt8 := kInh ++ spT o ++ (zs.take k).flatMap spT
def hrV (o : Int) (zs : List Int) : List UInt8 := if zs.all ownB = true then hrT o zs zs.length else []
theorem hr_zero (o : Int) (zs : List Int) : hrT o zs 0 = kInh ++ spT o := by unfold hrT; simp
theorem hr_next {o : Int} {zs : List Int} {k : Nat} (h : k < zs.length) : hrT o zs (k + 1) = hrT o zs k ++ spT (zs.getD k 0) := by
  unfold hrT
  rw [List.take_add_one, List.flatMap_append, List.getD_eq_getElem?_getD, List.getElem?_eq_getElem h]
  simp
theorem join_map (x : List UInt8) (zs : List Int) : joinL 32 (x :: zs.map nT) = x ++ zs.flatMap spT := by
  induction zs generalizing x with
  | nil => simp [joinL]
  | cons z t ih =>
    rw [List.map_cons, join_cons 32 x (by simp), ih]
    simp [spT]
theorem hr_all (o : Int) (zs : List Int) : hrT o zs zs.length = joinL 32 (kInh :: nT o :: zs.map nT) := by
  rw [join_cons 32 kInh (by simp), join_map]
  unfold hrT spT
  simp
theorem nT_len {n : Int} (h0 : 0 ≤ n) (h : n ≤ 1000000) : (nT n).length ≤ 16 := dec_len 15 _ (by omega)
theorem spT_len {n : Int} (h0 : 0 ≤ n) (h : n ≤ 1000000) : (spT n).length ≤ 17 := by have := nT_len h0 h; unfold spT; simp; omega
theorem hr_len {o : Int} {zs : List Int} (ho : 0 ≤ o ∧ o ≤ 1000000) : ∀ k, (∀ j, j < k → j < zs.length → 0 ≤ zs.getD j 0 ∧ zs.getD j 0 ≤ 1000000) → (hrT o zs k).length ≤ 24 + 17 * k := by
  intro k
  induction k with
  | zero => intro _; rw [hr_zero]; have := spT_len ho.1 ho.2; simp [kInh]; omega
  | succ k ih =>
    intro h
    have i := ih (fun j hj hl => h j (by omega) hl)
    by_cases hk : k < zs.length
    · rw [hr_next hk]
      have := h k (by omega) hk
      have := spT_len this.1 this.2
      rw [List.length_append]; omega
    · have e : hrT o zs (k + 1) = hrT o zs k := by
        unfold hrT
        rw [List.take_of_length_le (by omega), List.take_of_length_le (by omega)]
      rw [e]; omega
/-- the text of a deed -/
def ddT (x : Dd) : List UInt8 := joinL 32 (deedW x)
theorem ev_out {e : Ev} (h : ¬ (smlB e.at_ = true ∧ smlB e.nu = true)) : fmE e = txt [] := by
  unfold fmE evT evW; rw [if_neg h]; rfl
theorem ev_deed {e : Ev} (h : smlB e.at_ = true ∧ smlB e.nu = true) (c : e.k = 0) : fmE e = txt (ddT e.dd) := by
  unfold fmE evT evW ddT; rw [if_pos h, if_pos c]
theorem ev_turns {e : Ev} (h : smlB e.at_ = true ∧ smlB e.nu = true) (c : e.k = 1) : fmE e = txt (kTurns ++ spT e.nu) := by
  unfold fmE evT evW; rw [if_pos h, c]; simp [join_two, spT]
theorem ev_swap {e : Ev} (h : smlB e.at_ = true ∧ smlB e.nu = true) (c : e.k = 2) : fmE e = txt (kSwap ++ spT e.at_ ++ spT e.nu) := by
  unfold fmE evT evW; rw [if_pos h, c]; simp [join_three, spT]
theorem ev_gate {e : Ev} (h : smlB e.at_ = true ∧ smlB e.nu = true) (c : e.k = 3) : fmE e = txt (kGate ++ spT e.at_ ++ spT e.nu) := by
  unfold fmE evT evW; rw [if_pos h, c]; simp [join_three, spT]
theorem ev_dig {e : Ev} (h : smlB e.at_ = true ∧ smlB e.nu = true) (c : e.k = 4) : fmE e = txt (kDig ++ spT e.at_ ++ spT e.nu) := by
  unfold fmE evT evW; rw [if_pos h, c]; simp [join_three, spT]
theorem ev_hour {e : Ev} (h : smlB e.at_ = true ∧ smlB e.nu = true) (c : e.k = 5) : fmE e = txt (kHour ++ spT e.nu) := by
  unfold fmE evT evW; rw [if_pos h, c]; simp [join_two, spT]
theorem ev_none {e : Ev} (c0 : e.k ≠ 0) (c1 : e.k ≠ 1) (c2 : e.k ≠ 2) (c3 : e.k ≠ 3) (c4 : e.k ≠ 4) (c5 : e.k ≠ 5) : fmE e = txt [] := by
  unfold fmE evT evW
  rw [if_neg c0, if_neg c1, if_neg c2, if_neg c3, if_neg c4, if_neg c5]
  split <;> rfl
theorem dd_out {x : Dd} (h : ¬ (ownB x.o = true ∧ x.zs.length ≤ 12)) : ddT x = [] := by
  unfold ddT deedW; rw [if_neg h]; rfl
theorem dd_inh {x : Dd} (h : ownB x.o = true ∧ x.zs.length ≤ 12) (c : x.k = 1) (z : x.zs.all ownB = true) : ddT x = hrT x.o x.zs x.zs.length := by
  unfold ddT deedW; rw [if_pos h, if_pos c, if_pos z, hr_all]
theorem dd_inhN {x : Dd} (c : x.k = 1) (z : x.zs.all ownB = false) : ddT x = [] := by
  unfold ddT deedW; rw [if_pos c, z]; split <;> rfl
theorem dd_oth {x : Dd} (c : x.k ≠ 1) (t : ownB x.t = false) : ddT x = [] := by
  unfold ddT deedW; rw [if_neg c, t]; split <;> rfl
theorem dd_join {x : Dd} (h : ownB x.o = true ∧ x.zs.length ≤ 12) (c : x.k = 2) (t : ownB x.t = true) : ddT x = kJoin ++ spT x.o ++ spT x.t := by
  unfold ddT deedW; rw [if_pos h, c, t]; simp [join_three, spT]
theorem dd_sell {x : Dd} (h : ownB x.o = true ∧ x.zs.length ≤ 12) (c : x.k = 0) (t : ownB x.t = true) (v : Wsh.vfB x.n x.d = true) : ddT x = kSell ++ spT x.o ++ spT x.t ++ [32] ++ (frT x.n x.d).data.toList := by
  unfold ddT deedW; rw [if_pos h, c, t, v]; simp [join_four, spT]
theorem dd_sellN {x : Dd} (c : x.k = 0) (v : Wsh.vfB x.n x.d = false) : ddT x = [] := by
  unfold ddT deedW; rw [c, v]; simp; rfl
theorem dd_none {x : Dd} (c0 : x.k ≠ 0) (c1 : x.k ≠ 1) (c2 : x.k ≠ 2) : ddT x = [] := by
  unfold ddT deedW; rw [if_neg c1, if_neg c2, if_neg (fun (c : x.k = 0 ∧ _) => c0 c.1)]
  split
  · split <;> rfl
  · rfl
theorem all_at {zs : List Int} {k : Nat} (h : zs.all ownB = true) (hk : k < zs.length) : ownB (zs.getD k 0) = true := by
  rw [List.getD_eq_getElem?_getD, List.getElem?_eq_getElem hk]
  exact List.all_eq_true.1 h _ (List.getElem_mem hk)
theorem all_not {zs : List Int} {k : Nat} (hk : k < zs.length) (h : ownB (zs.getD k 0) = false) : zs.all ownB = false := by
  cases c : zs.all ownB with
  | false => rfl
  | true => rw [all_at c hk] at h; cases h
theorem all_up {zs : List Int} (h : ∀ j, j < zs.length → ownB (zs.getD j 0) = true) : zs.all ownB = true := by
  rw [List.all_eq_true]
  intro z m
  obtain ⟨j, hj, rfl⟩ := List.mem_iff_getElem.1 m
  have := h j hj
  rw [List.getD_eq_getElem?_getD, List.getElem?_eq_getElem hj] at this
  exact this
theorem ownB_no {n : Int} (h : ¬ (1 ≤ n ∧ n ≤ 999)) : ownB n = false := by
  cases c : ownB n with
  | false => rfl
  | true => exact absurd (own_iff.1 c) h
theorem smlB_no {n : Int} (h : ¬ (0 ≤ n ∧ n ≤ 9999)) : smlB n = false := by
  cases c : smlB n with
  | false => rfl
  | true => exact absurd (sml_iff.1 c) h
end Go.Proofs.Ythagafkjlecagaa
