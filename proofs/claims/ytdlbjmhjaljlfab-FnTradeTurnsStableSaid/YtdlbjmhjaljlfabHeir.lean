/- What heirs get; units of a ledger. No condition but those stated. -/
import Derived.Test.YtdlbjmhjaljlfabLedV
namespace Go.Proofs.Ytdlbjmhjaljlfab

/-- the ledger after each heir got p -/
def giveL (p : Rat) : Led → List Int → Led
  | L, [] => L
  | L, h :: t => giveL p (setL L h (shareL L h + p)) t
theorem give_snoc (p : Rat) : ∀ (hs : List Int) (L : Led) (h : Int), giveL p L (hs ++ [h]) = setL (giveL p L hs) h (shareL (giveL p L hs) h + p) := by
  intro hs
  induction hs with
  | nil => intro L h; rfl
  | cons x t ih => intro L h; exact ih _ h
theorem give_asc (p : Rat) : ∀ (hs : List Int) (L : Led), Asc L → Asc (giveL p L hs) := by
  intro hs
  induction hs with
  | nil => intro L h; exact h
  | cons x t ih => intro L h; exact ih _ (asc_set h _ _)
theorem give_share (p : Rat) : ∀ (hs : List Int) (L : Led), Asc L → hs.Nodup → ∀ o, shareL (giveL p L hs) o = shareL L o + (if o ∈ hs then p else 0) := by
  intro hs
  induction hs with
  | nil => intro L _ _ o; show shareL L o = shareL L o + (if o ∈ [] then p else 0); rw [if_neg (by simp)]; grind
  | cons x t ih =>
    intro L ha hn o
    have hn' := List.nodup_cons.1 hn
    show shareL (giveL p (setL L x (shareL L x + p)) t) o = _
    rw [ih _ (asc_set ha _ _) hn'.2, share_set ha]
    by_cases e : o = x
    · subst e
      rw [if_pos rfl, if_neg hn'.1, if_pos (by simp)]; grind
    · rw [if_neg e]
      by_cases m : o ∈ t
      · rw [if_pos m, if_pos (by simp [m])]
      · rw [if_neg m, if_neg (by simp [m, e])]
theorem give_pos {p : Rat} (h0 : 0 ≤ p) : ∀ (hs : List Int) (L : Led), Pos L → Pos (giveL p L hs) := by
  intro hs
  induction hs with
  | nil => intro L h; exact h
  | cons x t ih => intro L h; exact ih _ (pos_set h _ (by have := share_nonneg h x; grind))
/-- an equal part of a share -/
theorem part_q (q : Rat) {m : Int} (hm : 0 < m) : Rat.divInt q.num (q.den * m) = q / (m : Rat) := by
  have h1 : (m : Rat) ≠ 0 := by intro c; have := (Rat.intCast_eq_zero_iff).1 c; omega
  have h2 : ((q.den : Int) : Rat) ≠ 0 := by intro c; have := (Rat.intCast_eq_zero_iff).1 c; have := den_pos q; omega
  have e : q = (q.num : Rat) / ((q.den : Int) : Rat) := by rw [← Rat.divInt_eq_div, q_mk]
  rw [Rat.divInt_eq_div, Rat.intCast_mul]
  conv => rhs; rw [e]
  grind
/-- P22: one heir gets all -/
theorem heir_one {L : Led} (ha : Asc L) {f t : Int} (hft : f ≠ t) : giveL (shareL L f) (setL L f 0) [t] = soldL L f t (shareL L f) := by
  show setL (setL L f 0) t (shareL (setL L f 0) t + shareL L f) = _
  unfold soldL
  rw [share_set ha, if_neg (fun e => hft e.symm), show shareL L f - shareL L f = 0 from Rat.sub_self]
/-- P21: each heir has as much more -/
theorem heir_more {L : Led} (ha : Asc L) {owner : Int} {hs : List Int} (hn : hs.Nodup) (ho : owner ∉ hs) (p : Rat) :
    (∀ h ∈ hs, shareL (giveL p (setL L owner 0) hs) h = shareL L h + p) ∧ shareL (giveL p (setL L owner 0) hs) owner = 0 := by
  refine ⟨fun h hm => ?_, ?_⟩
  · rw [give_share p hs _ (asc_set ha _ _) hn, if_pos hm, share_set ha, if_neg (fun e : h = owner => ho (by rw [← e]; exact hm))]
  · rw [give_share p hs _ (asc_set ha _ _) hn, if_neg ho, share_set ha, if_pos rfl]; grind

/-- CommonDen: the least common multiple of the first k denominators -/
def lcmTo (L : Led) : Nat → Nat
  | 0 => 1
  | k + 1 => Nat.lcm (lcmTo L k) (L.getD k (0, 0)).2.den
theorem lcm_succ (L : Led) (k : Nat) : lcmTo L (k + 1) = Nat.lcm (lcmTo L k) (L.getD k (0, 0)).2.den := rfl
theorem lcm_pos (L : Led) : ∀ k, 0 < lcmTo L k := by
  intro k
  induction k with
  | zero => exact Nat.one_pos
  | succ k ih => exact Nat.lcm_pos ih (Rat.den_pos _)
theorem lcm_dvd (L : Led) : ∀ k i, i < k → (L.getD i (0, 0)).2.den ∣ lcmTo L k := by
  intro k
  induction k with
  | zero => intro i h; omega
  | succ k ih =>
    intro i h
    by_cases e : i = k
    · subst e; exact Nat.dvd_lcm_right _ _
    · exact Nat.dvd_trans (ih i (by omega)) (Nat.dvd_lcm_left _ _)
theorem lcm_mono (L : Led) (k : Nat) : lcmTo L k ≤ lcmTo L (k + 1) := Nat.le_of_dvd (lcm_pos L (k + 1)) (Nat.dvd_lcm_left _ _)
theorem lcm_mono' (L : Led) : ∀ n k, lcmTo L k ≤ lcmTo L (k + n) := by
  intro n
  induction n with
  | zero => intro k; exact Nat.le_refl _
  | succ n ih => intro k; exact Nat.le_trans (ih k) (lcm_mono L (k + n))
/-- a share times a number that its denominator divides -/
theorem unit_q {q : Rat} {n : Nat} (h : q.den ∣ n) : (((n / q.den : Nat) : Int) * q.num : Int) = ((n : Rat) * q : Rat) := by
  obtain ⟨c, rfl⟩ := h
  have hd : 0 < q.den := q.den_pos
  rw [Nat.mul_div_cancel_left _ hd]
  have h2 : ((q.den : Int) : Rat) ≠ 0 := by intro e; have := (Rat.intCast_eq_zero_iff).1 e; omega
  have e : q * ((q.den : Int) : Rat) = (q.num : Rat) := by
    conv => lhs; arg 1; rw [← q_mk q, Rat.divInt_eq_div]
    exact Rat.div_mul_cancel h2
  rw [Rat.intCast_mul, ← e]
  have e2 : ((q.den * c : Nat) : Rat) = ((q.den : Int) : Rat) * (((c : Nat) : Int) : Rat) := by
    rw [← Rat.intCast_mul]; rfl
  rw [e2]; grind
/-- UnitsOf: shares times a number -/
def unitsL (L : Led) (n : Nat) : List Int := L.map (fun h => ((n / h.2.den : Nat) : Int) * h.2.num)
/-- P24: the units of a ledger whose shares are q together, are q times the number -/
theorem units_sum : ∀ (L : Led) (n : Nat), (∀ h ∈ L, h.2.den ∣ n) → (((unitsL L n).sum : Int) : Rat) = (n : Rat) * totL L := by
  intro L
  induction L with
  | nil => intro n _; show ((0 : Int) : Rat) = (n : Rat) * 0; grind
  | cons h t ih =>
    intro n hd
    show (((((n / h.2.den : Nat) : Int) * h.2.num + (unitsL t n).sum : Int)) : Rat) = (n : Rat) * (h.2 + totL t)
    rw [Rat.intCast_add, ih n (fun x hx => hd x (by simp [hx])), unit_q (hd h (by simp))]
    grind
theorem units_whole {L : Led} (h : totL L = 1) {n : Nat} (hd : ∀ x ∈ L, x.2.den ∣ n) : (unitsL L n).sum = (n : Int) := by
  have := units_sum L n hd
  rw [h] at this
  have e : (((unitsL L n).sum : Int) : Rat) = ((n : Int) : Rat) := by rw [this]; show (n : Rat) * 1 = (n : Rat); grind
  exact Rat.intCast_inj.1 e
/-- P25: a unit divided by the number is the share -/
theorem unit_share {q : Rat} {n : Nat} (hn : 0 < n) (h : q.den ∣ n) : Rat.divInt (((n / q.den : Nat) : Int) * q.num) n = q := by
  have h2 : ((n : Int) : Rat) ≠ 0 := by intro e; have := (Rat.intCast_eq_zero_iff).1 e; omega
  rw [Rat.divInt_eq_div, unit_q h]
  show ((n : Int) : Rat) * q / ((n : Int) : Rat) = q
  grind
theorem lcm_all {L : Led} : ∀ x ∈ L, x.2.den ∣ lcmTo L L.length := by
  intro x hx
  obtain ⟨i, hi, rfl⟩ := List.getElem_of_mem hx
  have := lcm_dvd L L.length i hi
  rwa [List.getD_eq_getElem?_getD, List.getElem?_eq_getElem hi] at this
end Go.Proofs.Ytdlbjmhjaljlfab
