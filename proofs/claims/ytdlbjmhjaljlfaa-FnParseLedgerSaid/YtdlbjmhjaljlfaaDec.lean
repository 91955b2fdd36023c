/- Decimal texts of numbers and their reading, as lists of bytes. No condition but those stated. -/
import Derived.Laws.Concat
import Derived.Laws.Strings2
namespace Go.Proofs.Ytdlbjmhjaljlfaa

def ofDig (d : Nat) : UInt8 := UInt8.ofNat (48 + d)
/-- the decimal text of a number -/
def decL (n : Nat) : List UInt8 := if n < 10 then [ofDig n] else decL (n / 10) ++ [ofDig (n % 10)]
termination_by n
decreasing_by omega
theorem decL_lt {n : Nat} (h : n < 10) : decL n = [ofDig n] := by unfold decL; rw [if_pos h]
theorem decL_ge {n : Nat} (h : ¬ n < 10) : decL n = decL (n / 10) ++ [ofDig (n % 10)] := by
  conv => lhs; unfold decL
  rw [if_neg h]
def isDig (b : UInt8) : Bool := decide (48 ≤ b.toNat) && decide (b.toNat ≤ 57)
theorem isDig_iff (b : UInt8) : isDig b = true ↔ 48 ≤ b.toNat ∧ b.toNat ≤ 57 := by unfold isDig; simp
/-- the number of a text -/
def valL (l : List UInt8) : Nat := l.foldl (fun a b => 10 * a + (b.toNat - 48)) 0
theorem valL_snoc (l : List UInt8) (b : UInt8) : valL (l ++ [b]) = 10 * valL l + (b.toNat - 48) := by unfold valL; simp
theorem ofDig_toNat {d : Nat} (h : d < 10) : (ofDig d).toNat = 48 + d := by
  unfold ofDig; simp; omega
theorem isDig_of {d : Nat} (h : d < 10) : isDig (ofDig d) = true := by rw [isDig_iff, ofDig_toNat h]; omega
theorem ofDig_of {b : UInt8} (h : isDig b = true) : ofDig (b.toNat - 48) = b := by
  rw [isDig_iff] at h
  apply UInt8.toNat_inj.1
  rw [ofDig_toNat (by omega)]; omega
theorem dec_facts : ∀ k n : Nat, n ≤ k → valL (decL n) = n ∧ (decL n).all isDig = true ∧ decL n ≠ [] ∧ (1 ≤ n → (decL n).head? ≠ some 48) := by
  intro k
  induction k with
  | zero =>
    intro n h
    have e : n = 0 := by omega
    subst e
    rw [decL_lt (by omega)]
    exact ⟨rfl, rfl, by simp, fun h => by omega⟩
  | succ k ih =>
    intro n h
    by_cases h10 : n < 10
    · rw [decL_lt h10]
      refine ⟨?_, ?_, by simp, fun h1 e => ?_⟩
      · have := valL_snoc [] (ofDig n)
        rw [List.nil_append] at this
        rw [this, ofDig_toNat h10]
        show 10 * 0 + _ = _
        omega
      · simp [isDig_of h10]
      · simp at e
        have := congrArg UInt8.toNat e
        rw [ofDig_toNat h10] at this
        have e2 : (48 : UInt8).toNat = 48 := rfl
        omega
    · obtain ⟨a, b, c, d⟩ := ih (n / 10) (by omega)
      rw [decL_ge h10]
      refine ⟨?_, ?_, by simp, fun _ e => d (by omega) ?_⟩
      · rw [valL_snoc, a, ofDig_toNat (by omega)]; omega
      · rw [List.all_append, b, List.all_cons, isDig_of (Nat.mod_lt _ (by omega))]; rfl
      · cases hd : decL (n / 10) with
        | nil => exact absurd hd c
        | cons x t => rw [hd] at e; exact e
theorem val_dec (n : Nat) : valL (decL n) = n := (dec_facts n n (Nat.le_refl _)).1
theorem dig_dec (n : Nat) : (decL n).all isDig = true := (dec_facts n n (Nat.le_refl _)).2.1
theorem dec_ne (n : Nat) : decL n ≠ [] := (dec_facts n n (Nat.le_refl _)).2.2.1
theorem head_dec {n : Nat} (h : 1 ≤ n) : (decL n).head? ≠ some 48 := (dec_facts n n (Nat.le_refl _)).2.2.2 h
theorem dec_len : ∀ k n : Nat, n < 10 ^ (k + 1) → (decL n).length ≤ k + 1 := by
  intro k
  induction k with
  | zero => intro n h; rw [decL_lt (by simpa using h)]; simp
  | succ k ih =>
    intro n h
    by_cases h10 : n < 10
    · rw [decL_lt h10]; simp
    · rw [decL_ge h10, List.length_append]
      have h2 : n / 10 < 10 ^ (k + 1) := by
        rw [Nat.div_lt_iff_lt_mul (by omega)]; rw [Nat.pow_succ] at h; exact h
      have := ih _ h2
      simp; omega
/-- a text of digits without a leading zero is the text of its number -/
theorem dec_of : ∀ (k : Nat) (l : List UInt8), l.length = k + 1 → l.all isDig = true → (l.head? ≠ some 48 → 1 ≤ valL l) ∧ ((l.length = 1 ∨ l.head? ≠ some 48) → decL (valL l) = l) := by
  intro k
  induction k with
  | zero =>
    intro l hl hd
    match l, hl with
    | [b], _ =>
      have hb : isDig b = true := by simpa using hd
      have hv : valL [b] = b.toNat - 48 := by have := valL_snoc [] b; rw [List.nil_append] at this; rw [this]; show 10 * 0 + _ = _; omega
      have h2 := (isDig_iff b).1 hb
      refine ⟨fun h => ?_, fun _ => ?_⟩
      · rw [hv]
        have h3 : b.toNat ≠ 48 := fun e => h (by
          have : b = 48 := UInt8.toNat_inj.1 (by rw [e]; rfl)
          rw [this]; rfl)
        omega
      · rw [hv, decL_lt (by omega), ofDig_of hb]
  | succ k ih =>
    intro l hl hd
    have hne : l ≠ [] := by intro e; rw [e] at hl; simp at hl
    obtain ⟨l', b, rfl⟩ : ∃ l' b, l = l' ++ [b] := ⟨l.dropLast, l.getLast hne, (List.dropLast_concat_getLast hne).symm⟩
    have hl' : l'.length = k + 1 := by simpa using hl
    rw [List.all_append, Bool.and_eq_true] at hd
    have hb : isDig b = true := by simpa using hd.2
    have h2 := (isDig_iff b).1 hb
    obtain ⟨i1, i2⟩ := ih l' hl' hd.1
    have hh : (l' ++ [b]).head? = l'.head? := by
      cases l' with
      | nil => simp at hl'
      | cons x t => rfl
    refine ⟨fun h => ?_, fun h => ?_⟩
    · rw [hh] at h
      rw [valL_snoc]
      have := i1 h
      omega
    · have h3 : l'.head? ≠ some 48 := by
        rcases h with h | h
        · rw [hl] at h; omega
        · rwa [hh] at h
      have h4 := i1 h3
      rw [valL_snoc, decL_ge (by omega), show (10 * valL l' + (b.toNat - 48)) / 10 = valL l' by omega, i2 (.inr h3), show (10 * valL l' + (b.toNat - 48)) % 10 = b.toNat - 48 by omega, ofDig_of hb]
/-- whether a text of digits is the text of its number -/
theorem dec_iff {l : List UInt8} (hne : l ≠ []) (hd : l.all isDig = true) : decL (valL l) = l ↔ (l.length = 1 ∨ l.head? ≠ some 48) := by
  have hp : 0 < l.length := List.length_pos_iff.2 hne
  refine ⟨fun h => ?_, (dec_of (l.length - 1) l (by omega) hd).2⟩
  by_cases hv : 1 ≤ valL l
  · right; have := head_dec hv; rwa [h] at this
  · left
    have e : valL l = 0 := by omega
    rw [e, decL_lt (by omega)] at h
    rw [← h]; rfl

/-- readNumber: the number below lim whose text is l, -1 if there is none -/
def rdI (lim : Nat) (l : List UInt8) : Int := if l.all isDig = true ∧ l ≠ [] ∧ decL (valL l) = l ∧ valL l < lim then (valL l : Int) else -1
theorem rd_yes {lim : Nat} {l : List UInt8} (h1 : l.all isDig = true) (h2 : l ≠ []) (h3 : decL (valL l) = l) (h4 : valL l < lim) : rdI lim l = (valL l : Int) := by unfold rdI; rw [if_pos ⟨h1, h2, h3, h4⟩]
theorem rd_no {lim : Nat} {l : List UInt8} (h : ¬ (l.all isDig = true ∧ l ≠ [] ∧ decL (valL l) = l ∧ valL l < lim)) : rdI lim l = -1 := by unfold rdI; rw [if_neg h]
theorem rd_bd (lim : Nat) (l : List UInt8) : -1 ≤ rdI lim l ∧ rdI lim l < (lim : Int) ∨ rdI lim l = -1 := by
  unfold rdI; split
  · left; omega
  · right; rfl
theorem rd_dec {lim n : Nat} (h : n < lim) : rdI lim (decL n) = n := by
  rw [rd_yes (dig_dec n) (dec_ne n) (by rw [val_dec]) (by rw [val_dec]; exact h), val_dec]
theorem rd_back {lim : Nat} {l : List UInt8} (h : 0 ≤ rdI lim l) : decL (rdI lim l).toNat = l ∧ (rdI lim l).toNat < lim := by
  unfold rdI at *
  split at h
  · next c => rw [if_pos c]; exact ⟨by simpa using c.2.2.1, by simpa using c.2.2.2⟩
  · omega
theorem val_take (l : List UInt8) (k : Nat) (h : k < l.length) : valL (l.take (k + 1)) = 10 * valL (l.take k) + ((l.getD k 0).toNat - 48) := by
  rw [List.take_succ_eq_append_getElem h, valL_snoc, List.getD_eq_getElem?_getD, List.getElem?_eq_getElem h]; rfl
theorem val_mono (l : List UInt8) : ∀ n k, k + n ≤ l.length → valL (l.take k) ≤ valL (l.take (k + n)) := by
  intro n
  induction n with
  | zero => intro k _; exact Nat.le_refl _
  | succ n ih =>
    intro k h
    have h1 := ih k (by omega)
    have h2 := val_take l (k + n) (by omega)
    rw [show k + (n + 1) = k + n + 1 by omega]
    omega
theorem val_le (l : List UInt8) {k : Nat} (h : k ≤ l.length) : valL (l.take k) ≤ valL l := by
  have := val_mono l (l.length - k) k (by omega)
  rwa [show k + (l.length - k) = l.length by omega, List.take_length] at this
/-- the first k bytes are digits -/
def digTo (l : List UInt8) (k : Nat) : Prop := ∀ j, j < k → 48 ≤ (l.getD j 0).toNat ∧ (l.getD j 0).toNat ≤ 57
theorem dig_all {l : List UInt8} (h : digTo l l.length) : l.all isDig = true := by
  rw [List.all_eq_true]
  intro b hb
  obtain ⟨i, hi, rfl⟩ := List.getElem_of_mem hb
  have := h i hi
  rw [List.getD_eq_getElem?_getD, List.getElem?_eq_getElem hi] at this
  rw [isDig_iff]; exact this
theorem dig_not {l : List UInt8} {k : Nat} (hk : k < l.length) (h : ¬ (48 ≤ (l.getD k 0).toNat ∧ (l.getD k 0).toNat ≤ 57)) (lim : Nat) : rdI lim l = -1 := by
  apply rd_no
  rintro ⟨h1, _⟩
  rw [List.all_eq_true] at h1
  have := h1 _ (List.getElem_mem hk)
  rw [isDig_iff] at this
  rw [List.getD_eq_getElem?_getD, List.getElem?_eq_getElem hk] at h
  exact h this
theorem val_bd {l : List UInt8} : ∀ k, k ≤ l.length → digTo l k → valL (l.take k) < 10 ^ k := by
  intro k
  induction k with
  | zero => intro _ _; simp [valL]
  | succ k ih =>
    intro hk hd
    have h1 := ih (by omega) (fun j hj => hd j (by omega))
    have h2 := hd k (by omega)
    rw [val_take l k (by omega), Nat.pow_succ]
    omega
end Go.Proofs.Ytdlbjmhjaljlfaa
