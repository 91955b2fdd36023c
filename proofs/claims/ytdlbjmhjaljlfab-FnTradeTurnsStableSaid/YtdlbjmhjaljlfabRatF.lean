/- Valid fractions are rational numbers: sums, differences, comparisons. No condition but those stated. -/
import Derived.Test.YtdlbjmhjaljlfabPlain
namespace Go.Proofs.Ytdlbjmhjaljlfab

/-- a rational number that is a valid fraction -/
def frB (q : Rat) : Bool := decide (0 ≤ q.num) && decide (q.num ≤ (q.den : Int)) && decide ((q.den : Int) ≤ 10000)
theorem frB_iff (q : Rat) : frB q = true ↔ 0 ≤ q.num ∧ q.num ≤ (q.den : Int) ∧ (q.den : Int) ≤ 10000 := by unfold frB; simp [and_assoc]
theorem den_pos (q : Rat) : 1 ≤ (q.den : Int) := by have := q.den_pos; omega
theorem q_mk (q : Rat) : Rat.divInt q.num q.den = q := Rat.num_divInt_den q
theorem rn_q {n d : Int} (h : 0 < d) : Wsh.rn n d = (Rat.divInt n d).num := by
  rw [Rat.num_divInt, Int.sign_eq_one_of_pos h, Int.one_mul, Int.gcd_comm]; rfl
theorem rd_q {n d : Int} (h : 0 < d) : Wsh.rd n d = ((Rat.divInt n d).den : Int) := by
  rw [Rat.den_divInt, if_neg (by omega)]
  unfold Wsh.rd
  rw [Int.gcd_comm]
  have : (d.natAbs : Int) = d := Int.natAbs_of_nonneg (by omega)
  rw [Int.natCast_ediv, this]
theorem redB_q {n d : Int} (h : 0 < d) : Wsh.redB n d = frB (Rat.divInt n d) := by
  have g := Wsh.gcd_pos n d h
  have e1 := Wsh.rn_mul n d
  have e2 := Wsh.rd_mul n d
  unfold frB Wsh.redB
  rw [← rn_q h, ← rd_q h]
  have a1 : 0 ≤ n ↔ 0 ≤ Wsh.rn n d := by
    constructor
    · intro hn; exact (Wsh.rn_le n d hn).1
    · intro hn; rw [← e1]; exact Int.mul_nonneg hn (by omega)
  have a2 : n ≤ d ↔ Wsh.rn n d ≤ Wsh.rd n d := by
    constructor
    · intro hn
      have : Wsh.rn n d * (Int.gcd n d : Int) ≤ Wsh.rd n d * (Int.gcd n d : Int) := by rw [e1, e2]; exact hn
      exact Int.le_of_mul_le_mul_right this g
    · intro hn
      have := Int.mul_le_mul_of_nonneg_right hn (Int.le_of_lt g)
      rw [e1, e2] at this; exact this
  rw [decide_eq_decide.2 a1, decide_eq_decide.2 a2]
theorem vf_q {n d : Int} (h : Wsh.vfB n d = true) : (Rat.divInt n d).num = n ∧ ((Rat.divInt n d).den : Int) = d ∧ frB (Rat.divInt n d) = true := by
  have hd := ((Wsh.vfB_iff n d).1 h).1
  obtain ⟨a, b, c⟩ := Wsh.red_self n d h
  rw [rn_q (by omega)] at a
  rw [rd_q (by omega)] at b
  rw [redB_q (by omega)] at c
  exact ⟨a, b, c⟩
theorem gcd_q (q : Rat) : Int.gcd q.num q.den = 1 := by
  have := q.reduced
  unfold Int.gcd
  simpa [Nat.Coprime] using this
theorem q_vf {q : Rat} (h : frB q = true) : Wsh.vfB q.num q.den = true := by
  rw [frB_iff] at h
  rw [Wsh.vfB_iff]
  exact ⟨den_pos q, h.2.2, h.1, h.2.1, gcd_q q⟩
theorem vf_frB (q : Rat) : Wsh.vfB q.num q.den = frB q := by
  rw [Bool.eq_iff_iff]
  refine ⟨fun h => ?_, q_vf⟩
  have := (Wsh.vfB_iff _ _).1 h
  rw [frB_iff]; exact ⟨this.2.2.1, this.2.2.2.1, this.2.1⟩
theorem mul_dpos (p q : Rat) : 0 < (p.den : Int) * (q.den : Int) := Int.mul_pos (by have := den_pos p; omega) (by have := den_pos q; omega)
theorem add_q (p q : Rat) : Rat.divInt (p.num * q.den + q.num * p.den) (p.den * q.den) = p + q := by
  conv => rhs; rw [← q_mk p, ← q_mk q]
  rw [Rat.divInt_add_divInt _ _ (by have := den_pos p; omega) (by have := den_pos q; omega)]
theorem sub_q (p q : Rat) : Rat.divInt (p.num * q.den - q.num * p.den) (p.den * q.den) = p - q := by
  conv => rhs; rw [← q_mk p, ← q_mk q]
  rw [Rat.divInt_sub_divInt _ _ (by have := den_pos p; omega) (by have := den_pos q; omega)]
/-- a sum of fractions as the program makes it -/
theorem add_red (p q : Rat) : Wsh.redB (p.num * q.den + q.num * p.den) (p.den * q.den) = frB (p + q) ∧ Wsh.rn (p.num * q.den + q.num * p.den) (p.den * q.den) = (p + q).num ∧ Wsh.rd (p.num * q.den + q.num * p.den) (p.den * q.den) = ((p + q).den : Int) := by
  rw [redB_q (mul_dpos p q), rn_q (mul_dpos p q), rd_q (mul_dpos p q), add_q]; exact ⟨rfl, rfl, rfl⟩
theorem sub_red (p q : Rat) : Wsh.redB (p.num * q.den - q.num * p.den) (p.den * q.den) = frB (p - q) ∧ Wsh.rn (p.num * q.den - q.num * p.den) (p.den * q.den) = (p - q).num ∧ Wsh.rd (p.num * q.den - q.num * p.den) (p.den * q.den) = ((p - q).den : Int) := by
  rw [redB_q (mul_dpos p q), rn_q (mul_dpos p q), rd_q (mul_dpos p q), sub_q]; exact ⟨rfl, rfl, rfl⟩
theorem frB_nonneg {q : Rat} (h : frB q = true) : 0 ≤ q := Rat.num_nonneg.1 ((frB_iff q).1 h).1
theorem le_one (q : Rat) : q ≤ 1 ↔ q.num ≤ (q.den : Int) := by
  rw [Rat.le_iff]; simp
theorem frB_le {q : Rat} (h : frB q = true) : q ≤ 1 := (le_one q).2 ((frB_iff q).1 h).2.1
/-- a fraction: from 0 to 1, and its lower number not too great -/
theorem frB_of {q : Rat} (h0 : 0 ≤ q) (h1 : q ≤ 1) (hd : (q.den : Int) ≤ 10000) : frB q = true := (frB_iff q).2 ⟨Rat.num_nonneg.2 h0, (le_one q).1 h1, hd⟩
theorem num_zero (q : Rat) : q.num = 0 ↔ q = 0 := Rat.num_eq_zero
theorem lt_q (p q : Rat) : p < q ↔ p.num * q.den < q.num * p.den := Rat.lt_iff p q
theorem q_ext {p q : Rat} (h : p.num = q.num) (h2 : (p.den : Int) = q.den) : p = q := Rat.ext h (by omega)
end Go.Proofs.Ytdlbjmhjaljlfab
