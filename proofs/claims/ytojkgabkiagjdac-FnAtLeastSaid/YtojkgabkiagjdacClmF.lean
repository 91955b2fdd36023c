/- What the document promises of claims, as the laws ask it (pure). No condition but those stated. -/
import Derived.Test.YtojkgabkiagjdacClmL
import Derived.Test.YtojkgabkiagjdacClmM
import Derived.Test.YtojkgabkiagjdacClmU
import Derived.Test.YtojkgabkiagjdacMathQ
namespace Go.Proofs.Ytojkgabkiagjdac
set_option linter.unusedVariables false
set_option linter.unusedSimpArgs false
/-- P77 -/
theorem vc_less {n : Int} {cs : List Int} (h : vcB n cs = true) : vcB (n / 2) cs = true ∧ vcB 0 cs = true ∧ vcB cs.sum cs = true ∧ vcB (cs.sum + 1) cs = false := by
  obtain ⟨a, b, c, d⟩ := vc_iff.1 h
  exact ⟨vc_iff.2 ⟨a, b, by omega, by omega⟩, vc_iff.2 ⟨a, b, by omega, by omega⟩, vc_iff.2 ⟨a, b, by omega, by omega⟩, vc_no (fun x => by omega)⟩
theorem good_gg {n : Int} {cs gs : List Int} (h : vcB n cs = true) (g : Good n cs gs) : ggB n cs gs = true := gg_yes h g
/-- P80 -/
theorem gain_next {n : Int} {cs : List Int} (h : vcB n cs = true) (h2 : vcB (n + 1) cs = true) : ∃ b, b < cs.length ∧ subZ (gainV (n + 1) cs) (gainV n cs) = one1 cs.length b := by
  obtain ⟨_, _, n0, n1⟩ := vc_iff.1 h
  obtain ⟨_, _, _, n2⟩ := vc_iff.1 h2
  have F := gain_fair h
  rw [gain_yes h] at F
  obtain ⟨b, e, hb, _⟩ := fair_at F (by omega)
  refine ⟨b, hb, ?_⟩
  have st : gainV (n + 1) cs = (gainV n cs).set b ((gainV n cs).getD b 0 + 1) := by
    rw [gain_yes h2, gain_yes h, show (n + 1).toNat = n.toNat + 1 by omega]
    show stepG _ _ = _
    unfold stepG
    rw [e, show ((b : Int)).toNat = b by omega]
  have lg := gain_len h
  refine ext_z (by rw [subZ_len, gain_len h2, one1_len]) (fun i hi => ?_)
  rw [subZ_len, gain_len h2] at hi
  rw [subZ_get _ _ (by rw [gain_len h2]; exact hi), one1_get hb, st, getD_setZ i _ (by omega)]
  split
  · rename_i c; rw [c]; omega
  · omega
/-- P79: a unit moved -/
def shiftZ (zs : List Int) (i k : Nat) : List Int := (zs.set i (zs.getD i 0 + 1)).set k ((zs.set i (zs.getD i 0 + 1)).getD k 0 - 1)
theorem shift_len (zs : List Int) (i k : Nat) : (shiftZ zs i k).length = zs.length := by unfold shiftZ; simp
theorem gp_good {n : Int} {cs gs : List Int} (h : vcB n cs = true) (g : Good n cs gs) : gpB gs = true := by
  obtain ⟨a, b, _, _⟩ := vc_iff.1 h
  refine gp_iff.2 ⟨allB_yes (fun i hi => ?_), by rw [g.1]; exact b⟩
  have x1 := g.2.2 i (by rw [← g.1]; exact hi)
  have x2 := allB_get a (i := i) (by rw [← g.1]; exact hi)
  omega
theorem shift_gap {n : Int} {cs : List Int} (h : vcB n cs = true) {i k : Nat} (hg : ggB n cs (shiftZ (gainV n cs) i k) = true) : gapV (gainV n cs) ≤ gapV (shiftZ (gainV n cs) i k) := by
  have g2 := (gg_is hg).2
  rw [gapV_yes (gp_good h (gain_good h)), gapV_yes (gp_good h g2)]
  exact gain_gaps h g2
theorem gap_losses {n : Int} {cs : List Int} (h : vcB n cs = true) : gapV (gainV n cs) ≤ gapV (lossV n cs) := by
  rw [gapV_yes (gp_good h (gain_good h)), gapV_yes (gp_good h (loss_good h))]
  exact gain_gaps h (loss_good h)
/-- P92 -/
theorem share_good {n : Int} {cs : List Int} (h : bsB n cs = true) : Good n cs (shareV n cs) := by
  obtain ⟨hv, h5⟩ := bs_is h
  obtain ⟨v1, v2, v3, v4⟩ := vc_iff.1 hv
  refine ⟨share_len h, ?_, fun i hi => ?_⟩
  · rw [share_yes h]
    by_cases c : cs.sum = 0
    · rw [if_pos c, rep_sum]; omega
    · rw [if_neg c, sr_sum (share_cs h c)]
  · rw [share_yes h]
    have b := allB_get v1 hi
    by_cases c : cs.sum = 0
    · rw [if_pos c, rep_get]; omega
    · rw [if_neg c]
      have hcs := share_cs h c
      obtain ⟨s0, s1⟩ := ws_bd (cs_yes hcs).2
      have e := sr_each hcs hi
      have q := q_le_n hcs hi
      have H := rest_is hcs (leftOf n cs) (Nat.le_refl _)
      have he := H.each i hi
      have hq := qs_get n cs hi
      have hr := rsts_get n cs hi
      have hmul : n * cs.getD i 0 ≤ cs.sum * cs.getD i 0 := Int.mul_le_mul_of_nonneg_right v4 b.1
      have hdm := Int.emod_add_mul_ediv (n * cs.getD i 0) cs.sum
      have hm0 := Int.emod_nonneg (n * cs.getD i 0) (show cs.sum ≠ 0 by omega)
      refine ⟨by omega, ?_⟩
      have key : (qs n cs).getD i 0 < cs.getD i 0 ∨ ((qs n cs).getD i 0 = cs.getD i 0 ∧ (n * cs.getD i 0) % cs.sum = 0) := by
        rw [hq]
        generalize n * cs.getD i 0 = p at *
        generalize hz : p / cs.sum = z at *
        by_cases d : z < cs.getD i 0
        · exact .inl d
        · have m1 : cs.sum * cs.getD i 0 ≤ cs.sum * z := Int.mul_le_mul_of_nonneg_left (by omega) (by omega)
          have z1 : p % cs.sum = 0 := by omega
          have m2 : cs.sum * z = cs.sum * cs.getD i 0 := by omega
          have m3 := Int.eq_of_mul_eq_mul_left (by omega) m2
          exact .inr ⟨m3, z1⟩
      unfold sr
      rcases he with ⟨h1, _⟩ | ⟨h1, _, h3⟩
      · rcases key with k1 | ⟨k1, _⟩ <;> omega
      · rcases key with k1 | ⟨_, k2⟩
        · omega
        · rw [hr] at h3; omega
end Go.Proofs.Ytojkgabkiagjdac
