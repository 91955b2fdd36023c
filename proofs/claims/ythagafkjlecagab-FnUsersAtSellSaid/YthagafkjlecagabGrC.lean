/- Contracts and facts of functions of this program, in build order. Conditions: those stated in each. -/
import Derived.Test.YthagafkjlecagabGrA
import Derived.Laws.Concat
import Derived.Laws.Strings2
namespace Go.Proofs.Ythagafkjlecagab

def ofDig (d : Nat) : UInt8 := UInt8.ofNat (48 + d)
/-- the decimal text of a number -/
def decL (n : Nat) : List UInt8 := if n < 10 then [ofDig n] else decL (n / 10) ++ [ofDig (n % 10)]
termination_by n
decreasing_by omega
theorem decL_lt {n : Nat} (h : n < 10) : decL n = [ofDig n] := by unfold decL; rw [if_pos h]
theorem decL_ge {n : Nat} (h : ¬ n < 10) : decL n = decL (n / 10) ++ [ofDig (n % 10)] := by
  conv => lhs; unfold decL
  rw [if_neg h]
def isDig (b : UInt8) : Bool := decide (48 ≤ b.toNat) && decide (b.toNat ≤ 57)
theorem isDig_iff (b : UInt8) : isDig b = true ↔ 48 ≤ b.toNat ∧ b.toNat ≤ 57 := by unfold isDig; simp
/-- the number of a text -/
def valL (l : List UInt8) : Nat := l.foldl (fun a b => 10 * a + (b.toNat - 48)) 0
theorem valL_snoc (l : List UInt8) (b : UInt8) : valL (l ++ [b]) = 10 * valL l + (b.toNat - 48) := by unfold valL; simp
theorem ofDig_toNat {d : Nat} (h : d < 10) : (ofDig d).toNat = 48 + d := by
  unfold ofDig; simp; omega
theorem isDig_of {d : Nat} (h : d < 10) : isDig (ofDig d) = true := by rw [isDig_iff, ofDig_toNat h]; omega
theorem ofDig_of {b : UInt8} (h : isDig b = true) : ofDig (b.toNat - 48) = b := by
  rw [isDig_iff] at h
  apply UInt8.toNat_inj.1
  rw [ofDig_toNat (by omega)]; omega
theorem dec_facts : ∀ k n : Nat, n ≤ k → valL (decL n) = n ∧ (decL n).all isDig = true ∧ decL n ≠ [] ∧ (1 ≤ n → (decL n).head? ≠ some 48) := by
  intro k
  induction k with
  | zero =>
    intro n h
    have e : n = 0 := by omega
    subst e
    rw [decL_lt (by omega)]
    exact ⟨rfl, rfl, by simp, fun h => by omega⟩
  | succ k ih =>
    intro n h
    by_cases h10 : n < 10
    · rw [decL_lt h10]
      refine ⟨?_, ?_, by simp, fun h1 e => ?_⟩
      · have := valL_snoc [] (ofDig n)
        rw [List.nil_append] at this
        rw [this, ofDig_toNat h10]
        show 10 * 0 + _ = _
        omega
      · simp [isDig_of h10]
      · simp at e
        have := congrArg UInt8.toNat e
        rw [ofDig_toNat h10] at this
        have e2 : (48 : UInt8).toNat = 48 := rfl
        omega
    · obtain ⟨a, b, c, d⟩ := ih (n / 10) (by omega)
      rw [decL_ge h10]
      refine ⟨?_, ?_, by simp, fun _ e => d (by omega) ?_⟩
      · rw [valL_snoc, a, ofDig_toNat (by omega)]; omega
      · rw [List.all_append, b, List.all_cons, isDig_of (Nat.mod_lt _ (by omega))]; rfl
      · cases hd : decL (n / 10) with
        | nil => exact absurd hd c
        | cons x t => rw [hd] at e; exact e
theorem val_dec (n : Nat) : valL (decL n) = n := (dec_facts n n (Nat.le_refl _)).1
theorem dig_dec (n : Nat) : (decL n).all isDig = true := (dec_facts n n (Nat.le_refl _)).2.1
theorem dec_ne (n : Nat) : decL n ≠ [] := (dec_facts n n (Nat.le_refl _)).2.2.1
theorem head_dec {n : Nat} (h : 1 ≤ n) : (decL n).head? ≠ some 48 := (dec_facts n n (Nat.le_refl _)).2.2.2 h
theorem dec_len : ∀ k n : Nat, n < 10 ^ (k + 1) → (decL n).length ≤ k + 1 := by
  intro k
  induction k with
  | zero => intro n h; rw [decL_lt (by simpa using h)]; simp
  | succ k ih =>
    intro n h
    by_cases h10 : n < 10
    · rw [decL_lt h10]; simp
    · rw [decL_ge h10, List.length_append]
      have h2 : n / 10 < 10 ^ (k + 1) := by
        rw [Nat.div_lt_iff_lt_mul (by omega)]; rw [Nat.pow_succ] at h; exact h
      have := ih _ h2
      simp; omega
/-- a text of digits without a leading zero is the text of its number -/
theorem dec_of : ∀ (k : Nat) (l : List UInt8), l.length = k + 1 → l.all isDig = true → (l.head? ≠ some 48 → 1 ≤ valL l) ∧ ((l.length = 1 ∨ l.head? ≠ some 48) → decL (valL l) = l) := by
  intro k
  induction k with
  | zero =>
    intro l hl hd
    match l, hl with
    | [b], _ =>
      have hb : isDig b = true := by simpa using hd
      have hv : valL [b] = b.toNat - 48 := by have := valL_snoc [] b; rw [List.nil_append] at this; rw [this]; show 10 * 0 + _ = _; omega
      have h2 := (isDig_iff b).1 hb
      refine ⟨fun h => ?_, fun _ => ?_⟩
      · rw [hv]
        have h3 : b.toNat ≠ 48 := fun e => h (by
          have : b = 48 := UInt8.toNat_inj.1 (by rw [e]; rfl)
          rw [this]; rfl)
        omega
      · rw [hv, decL_lt (by omega), ofDig_of hb]
  | succ k ih =>
    intro l hl hd
    have hne : l ≠ [] := by intro e; rw [e] at hl; simp at hl
    obtain ⟨l', b, rfl⟩ : ∃ l' b, l = l' ++ [b] := ⟨l.dropLast, l.getLast hne, (List.dropLast_concat_getLast hne).symm⟩
    have hl' : l'.length = k + 1 := by simpa using hl
    rw [List.all_append, Bool.and_eq_true] at hd
    have hb : isDig b = true := by simpa using hd.2
    have h2 := (isDig_iff b).1 hb
    obtain ⟨i1, i2⟩ := ih l' hl' hd.1
    have hh : (l' ++ [b]).head? = l'.head? := by
      cases l' with
      | nil => simp at hl'
      | cons x t => rfl
    refine ⟨fun h => ?_, fun h => ?_⟩
    · rw [hh] at h
      rw [valL_snoc]
      have := i1 h
      omega
    · have h3 : l'.head? ≠ some 48 := by
        rcases h with h | h
        · rw [hl] at h; omega
        · rwa [hh] at h
      have h4 := i1 h3
      rw [valL_snoc, decL_ge (by omega), show (10 * valL l' + (b.toNat - 48)) / 10 = valL l' by omega, i2 (.inr h3), show (10 * valL l' + (b.toNat - 48)) % 10 = b.toNat - 48 by omega, ofDig_of hb]
/-- whether a text of digits is the text of its number -/
theorem dec_iff {l : List UInt8} (hne : l ≠ []) (hd : l.all isDig = true) : decL (valL l) = l ↔ (l.length = 1 ∨ l.head? ≠ some 48) := by
  have hp : 0 < l.length := List.length_pos_iff.2 hne
  refine ⟨fun h => ?_, (dec_of (l.length - 1) l (by omega) hd).2⟩
  by_cases hv : 1 ≤ valL l
  · right; have := head_dec hv; rwa [h] at this
  · left
    have e : valL l = 0 := by omega
    rw [e, decL_lt (by omega)] at h
    rw [← h]; rfl

/-- readNumber: the number below lim whose text is l, -1 if there is none -/
def rdI (lim : Nat) (l : List UInt8) : Int := if l.all isDig = true ∧ l ≠ [] ∧ decL (valL l) = l ∧ valL l < lim then (valL l : Int) else -1
theorem rd_yes {lim : Nat} {l : List UInt8} (h1 : l.all isDig = true) (h2 : l ≠ []) (h3 : decL (valL l) = l) (h4 : valL l < lim) : rdI lim l = (valL l : Int) := by unfold rdI; rw [if_pos ⟨h1, h2, h3, h4⟩]
theorem rd_no {lim : Nat} {l : List UInt8} (h : ¬ (l.all isDig = true ∧ l ≠ [] ∧ decL (valL l) = l ∧ valL l < lim)) : rdI lim l = -1 := by unfold rdI; rw [if_neg h]
theorem rd_bd (lim : Nat) (l : List UInt8) : -1 ≤ rdI lim l ∧ rdI lim l < (lim : Int) ∨ rdI lim l = -1 := by
  unfold rdI; split
  · left; omega
  · right; rfl
theorem rd_dec {lim n : Nat} (h : n < lim) : rdI lim (decL n) = n := by
  rw [rd_yes (dig_dec n) (dec_ne n) (by rw [val_dec]) (by rw [val_dec]; exact h), val_dec]
theorem rd_back {lim : Nat} {l : List UInt8} (h : 0 ≤ rdI lim l) : decL (rdI lim l).toNat = l ∧ (rdI lim l).toNat < lim := by
  unfold rdI at *
  split at h
  · next c => rw [if_pos c]; exact ⟨by simpa using c.2.2.1, by simpa using c.2.2.2⟩
  · omega
theorem val_take (l : List UInt8) (k : Nat) (h : k < l.length) : valL (l.take (k + 1)) = 10 * valL (l.take k) + ((l.getD k 0).toNat - 48) := by
  rw [List.take_succ_eq_append_getElem h, valL_snoc, List.getD_eq_getElem?_getD, List.getElem?_eq_getElem h]; rfl
theorem val_mono (l : List UInt8) : ∀ n k, k + n ≤ l.length → valL (l.take k) ≤ valL (l.take (k + n)) := by
  intro n
  induction n with
  | zero => intro k _; exact Nat.le_refl _
  | succ n ih =>
    intro k h
    have h1 := ih k (by omega)
    have h2 := val_take l (k + n) (by omega)
    rw [show k + (n + 1) = k + n + 1 by omega]
    omega
theorem val_le (l : List UInt8) {k : Nat} (h : k ≤ l.length) : valL (l.take k) ≤ valL l := by
  have := val_mono l (l.length - k) k (by omega)
  rwa [show k + (l.length - k) = l.length by omega, List.take_length] at this
/-- the first k bytes are digits -/
def digTo (l : List UInt8) (k : Nat) : Prop := ∀ j, j < k → 48 ≤ (l.getD j 0).toNat ∧ (l.getD j 0).toNat ≤ 57
theorem dig_all {l : List UInt8} (h : digTo l l.length) : l.all isDig = true := by
  rw [List.all_eq_true]
  intro b hb
  obtain ⟨i, hi, rfl⟩ := List.getElem_of_mem hb
  have := h i hi
  rw [List.getD_eq_getElem?_getD, List.getElem?_eq_getElem hi] at this
  rw [isDig_iff]; exact this
theorem dig_not {l : List UInt8} {k : Nat} (hk : k < l.length) (h : ¬ (48 ≤ (l.getD k 0).toNat ∧ (l.getD k 0).toNat ≤ 57)) (lim : Nat) : rdI lim l = -1 := by
  apply rd_no
  rintro ⟨h1, _⟩
  rw [List.all_eq_true] at h1
  have := h1 _ (List.getElem_mem hk)
  rw [isDig_iff] at this
  rw [List.getD_eq_getElem?_getD, List.getElem?_eq_getElem hk] at h
  exact h this
theorem val_bd {l : List UInt8} : ∀ k, k ≤ l.length → digTo l k → valL (l.take k) < 10 ^ k := by
  intro k
  induction k with
  | zero => intro _ _; simp [valL]
  | succ k ih =>
    intro hk hd
    have h1 := ih (by omega) (fun j hj => hd j (by omega))
    have h2 := hd k (by omega)
    rw [val_take l k (by omega), Nat.pow_succ]
    omega
end Go.Proofs.Ythagafkjlecagab
namespace Go.Proofs.Ythagafkjlecagab

/-- the text of some bytes -/
def txt (l : List UInt8) : ByteArray := ⟨l.toArray⟩
def digs : ByteArray := { data := #[48, 49, 50, 51, 52, 53, 54, 55, 56, 57] }
theorem digs_ext (d : Nat) (h : d < 10) : ({ data := #[48, 49, 50, 51, 52, 53, 54, 55, 56, 57] } : ByteArray).extract d (d + 1) = txt [ofDig d] := by
  rcases d with _ | _ | _ | _ | _ | _ | _ | _ | _ | _ | d
  all_goals first | omega | rfl
theorem txt_size (l : List UInt8) : (txt l).size = l.length := by show l.toArray.size = _; simp
theorem txt_list (l : List UInt8) : (txt l).data.toList = l := rfl
theorem txt_app (a b : List UInt8) : txt a ++ txt b = txt (a ++ b) := ByteArray.mk_append_mk a b
theorem txt_of (s : ByteArray) : txt s.data.toList = s := by
  obtain ⟨⟨l⟩⟩ := s; rfl
theorem txt_inj {a b : List UInt8} (h : txt a = txt b) : a = b := by
  have := congrArg (fun s : ByteArray => s.data.toList) h
  exact this
/-- what decimal has written so far -/
def DecI (n k : Nat) (l : List UInt8) : Prop := l.length ≤ (decL n).length ∧ ((k < 10 ∧ l = decL n) ∨ (10 ≤ k ∧ decL (k / 10) ++ l = decL n))
theorem decI_start (n : Nat) : DecI n n [ofDig (n % 10)] := by
  refine ⟨List.length_pos_iff.2 (dec_ne n), ?_⟩
  by_cases h : n < 10
  · left; exact ⟨h, by rw [decL_lt h, Nat.mod_eq_of_lt h]⟩
  · right; exact ⟨by omega, (decL_ge h).symm⟩
theorem decI_step {n k : Nat} {l : List UInt8} (h : DecI n k l) (hk : 10 ≤ k) : DecI n (k / 10) (ofDig (k / 10 % 10) :: l) := by
  obtain ⟨_, h | ⟨_, h⟩⟩ := h
  · omega
  · have e : ∀ x : List UInt8, x ++ ofDig (k / 10 % 10) :: l = (x ++ [ofDig (k / 10 % 10)]) ++ l := fun x => by simp
    by_cases h1 : k / 10 < 10
    · have e2 : decL n = ofDig (k / 10 % 10) :: l := by rw [← h, decL_lt h1, Nat.mod_eq_of_lt h1]; rfl
      exact ⟨by rw [e2]; exact Nat.le_refl _, .inl ⟨h1, e2.symm⟩⟩
    · have e2 : decL (k / 10 / 10) ++ ofDig (k / 10 % 10) :: l = decL n := by rw [e, ← decL_ge h1, h]
      exact ⟨by rw [← e2]; simp, .inr ⟨by omega, e2⟩⟩

/-- byte k of a text, as a number -/
def bt (s : ByteArray) (k : Nat) : Int := ((s.data.toList.getD k 0).toNat : Int)
theorem bt_len (s : ByteArray) : s.data.toList.length = s.size := by simp
theorem get_bt (s : ByteArray) : ∀ (n : Nat) (h : n < s.size), ((s[n]'h).toNat : Int) = bt s n := fun n h => by
  unfold bt
  rw [List.getD_eq_getElem?_getD, List.getElem?_eq_getElem (by rw [bt_len]; exact h)]
  rfl
theorem bt_bd (s : ByteArray) (k : Nat) : 0 ≤ bt s k ∧ bt s k ≤ 255 := by
  unfold bt
  have := (s.data.toList.getD k 0).toNat_lt
  omega
/-- the place of the first byte c, -1 if there is none -/
def idxI (c : Nat) (s : ByteArray) : Int := if s.data.toList.findIdx (fun b => b.toNat == c) < s.size then (s.data.toList.findIdx (fun b => b.toNat == c) : Int) else -1
theorem find_is {c : Nat} {s : ByteArray} {k : Nat} (hk : k < s.size) (h : bt s k = c) (hb : ∀ j, j < k → bt s j ≠ c) : s.data.toList.findIdx (fun b => b.toNat == c) = k := by
  have hk' : k < s.data.toList.length := by rw [bt_len]; exact hk
  rw [List.findIdx_eq hk']
  refine ⟨?_, fun j hj => ?_⟩
  · unfold bt at h
    rw [List.getD_eq_getElem?_getD, List.getElem?_eq_getElem hk'] at h
    simp at h ⊢; omega
  · have := hb j hj
    unfold bt at this
    rw [List.getD_eq_getElem?_getD, List.getElem?_eq_getElem (by omega)] at this
    simp at this ⊢; omega
theorem find_none {c : Nat} {s : ByteArray} (hb : ∀ j, j < s.size → bt s j ≠ c) : s.data.toList.findIdx (fun b => b.toNat == c) = s.size := by
  rw [← bt_len, List.findIdx_eq_length]
  intro b hm
  obtain ⟨i, hi, rfl⟩ := List.getElem_of_mem hm
  have := hb i (by rw [← bt_len]; exact hi)
  unfold bt at this
  rw [List.getD_eq_getElem?_getD, List.getElem?_eq_getElem hi] at this
  simp at this ⊢; omega
theorem idx_is {c : Nat} {s : ByteArray} {k : Nat} (hk : k < s.size) (h : bt s k = c) (hb : ∀ j, j < k → bt s j ≠ c) : idxI c s = k := by
  unfold idxI; rw [find_is hk h hb, if_pos hk]
theorem idx_none {c : Nat} {s : ByteArray} (hb : ∀ j, j < s.size → bt s j ≠ c) : idxI c s = -1 := by
  unfold idxI; rw [find_none hb, if_neg (by omega)]
/-- a text has byte c or not -/
theorem idx_or (c : Nat) (s : ByteArray) : (∃ k, k < s.size ∧ bt s k = c ∧ (∀ j, j < k → bt s j ≠ c) ∧ idxI c s = k) ∨ ((∀ j, j < s.size → bt s j ≠ c) ∧ idxI c s = -1) := by
  have key : ∀ n, n ≤ s.size → (∃ k, k < n ∧ bt s k = c ∧ ∀ j, j < k → bt s j ≠ c) ∨ ∀ j, j < n → bt s j ≠ c := by
    intro n
    induction n with
    | zero => intro _; right; intro j hj; omega
    | succ n ih =>
      intro hn
      rcases ih (by omega) with ⟨k, hk, h1, h2⟩ | h
      · exact .inl ⟨k, by omega, h1, h2⟩
      · by_cases hc : bt s n = c
        · exact .inl ⟨n, by omega, hc, h⟩
        · right; intro j hj
          by_cases e : j = n
          · subst e; exact hc
          · exact h j (by omega)
  rcases key s.size (Nat.le_refl _) with ⟨k, hk, h1, h2⟩ | h
  · exact .inl ⟨k, hk, h1, h2, idx_is hk h1 h2⟩
  · exact .inr ⟨h, idx_none h⟩

/-- the parts of the first k bytes between the bytes c, and where the last one begins -/
def cutTo (c : Int) (s : ByteArray) : Nat → List ByteArray × Nat
  | 0 => ([], 0)
  | k + 1 => if bt s k = c then ((cutTo c s k).1 ++ [s.extract (cutTo c s k).2 k], k + 1) else cutTo c s k
theorem cutTo_hit {c : Int} {s : ByteArray} {k : Nat} (h : bt s k = c) : cutTo c s (k + 1) = ((cutTo c s k).1 ++ [s.extract (cutTo c s k).2 k], k + 1) := by
  show (if _ then _ else _) = _; rw [if_pos h]
theorem cutTo_miss {c : Int} {s : ByteArray} {k : Nat} (h : ¬ bt s k = c) : cutTo c s (k + 1) = cutTo c s k := by
  show (if _ then _ else _) = _; rw [if_neg h]
theorem cutTo_bd (c : Int) (s : ByteArray) : ∀ k, (cutTo c s k).2 ≤ k ∧ (cutTo c s k).1.length ≤ k := by
  intro k
  induction k with
  | zero => exact ⟨Nat.le_refl _, Nat.le_refl _⟩
  | succ k ih =>
    by_cases h : bt s k = c
    · rw [cutTo_hit h]; simp; omega
    · rw [cutTo_miss h]; omega
/-- all parts -/
def cutS (c : Int) (s : ByteArray) : List ByteArray := (cutTo c s s.size).1 ++ [s.extract (cutTo c s s.size).2 s.size]
theorem cut_quiet {c : Int} {s : ByteArray} : ∀ (n k : Nat), (∀ j, k ≤ j → j < k + n → bt s j ≠ c) → cutTo c s (k + n) = cutTo c s k := by
  intro n
  induction n with
  | zero => intro k _; rfl
  | succ n ih =>
    intro k h
    rw [show k + (n + 1) = k + n + 1 by omega, cutTo_miss (h (k + n) (by omega) (by omega)), ih k (fun j h1 h2 => h j h1 (by omega))]
theorem cut_none {c : Int} {s : ByteArray} (h : ∀ j, j < s.size → bt s j ≠ c) : cutS c s = [s.extract 0 s.size] := by
  have := cut_quiet (c := c) (s := s) s.size 0 (fun j _ h2 => h j (by omega))
  unfold cutS
  rw [Nat.zero_add] at this
  rw [this]; rfl
theorem cut_at {c : Int} {s : ByteArray} {k : Nat} (h1 : bt s k = c) (h2 : ∀ j, j < k → bt s j ≠ c) : cutTo c s (k + 1) = ([s.extract 0 k], k + 1) := by
  have := cut_quiet (c := c) (s := s) k 0 (fun j _ h => h2 j (by omega))
  rw [Nat.zero_add] at this
  rw [cutTo_hit h1, this]; rfl
theorem cut_one {c : Int} {s : ByteArray} {k : Nat} (hk : k < s.size) (h1 : bt s k = c) (h2 : ∀ j, j < k → bt s j ≠ c) (h3 : ∀ j, k < j → j < s.size → bt s j ≠ c) : cutS c s = [s.extract 0 k, s.extract (k + 1) s.size] := by
  have := cut_quiet (c := c) (s := s) (s.size - (k + 1)) (k + 1) (fun j h h' => h3 j (by omega) (by omega))
  rw [show k + 1 + (s.size - (k + 1)) = s.size by omega, cut_at h1 h2] at this
  unfold cutS
  rw [this]; rfl
theorem cut_grows (c : Int) (s : ByteArray) : ∀ n k, (cutTo c s k).1.length ≤ (cutTo c s (k + n)).1.length := by
  intro n
  induction n with
  | zero => intro k; exact Nat.le_refl _
  | succ n ih =>
    intro k
    have := ih k
    rw [show k + (n + 1) = k + n + 1 by omega]
    by_cases h : bt s (k + n) = c
    · rw [cutTo_hit h]; simp; omega
    · rw [cutTo_miss h]; exact this
theorem cut_more {c : Int} {s : ByteArray} {k j : Nat} (h1 : bt s k = c) (h2 : ∀ j, j < k → bt s j ≠ c) (hj : k < j) (hjs : j < s.size) (h3 : bt s j = c) : 2 < (cutS c s).length := by
  have a := cut_grows c s (j - (k + 1)) (k + 1)
  rw [show k + 1 + (j - (k + 1)) = j by omega, cut_at h1 h2] at a
  have b : (cutTo c s (j + 1)).1.length = (cutTo c s j).1.length + 1 := by rw [cutTo_hit h3]; simp
  have d := cut_grows c s (s.size - (j + 1)) (j + 1)
  rw [show j + 1 + (s.size - (j + 1)) = s.size by omega] at d
  unfold cutS
  simp at a ⊢; omega

theorem ext_data (s : ByteArray) (a b : Nat) : (s.extract a b).data.toList = (s.data.toList.drop a).take (b - a) := by
  obtain ⟨⟨l⟩⟩ := s
  rw [ByteArray.extract_mk]
theorem bt_ext (s : ByteArray) (a b j : Nat) (h : a + j < b) : bt (s.extract a b) j = bt s (a + j) := by
  unfold bt
  rw [ext_data, List.getD_eq_getElem?_getD, List.getD_eq_getElem?_getD, List.getElem?_take_of_lt (by omega), List.getElem?_drop]
/-- the number of a text -/
def rdS (lim : Nat) (s : ByteArray) : Int := rdI lim s.data.toList
theorem rdS_bd (lim : Nat) (s : ByteArray) : -1 ≤ rdS lim s ∧ (rdS lim s < lim ∨ rdS lim s = -1) := by
  unfold rdS; have := rd_bd lim s.data.toList; omega
theorem rdS_not {lim : Nat} {s : ByteArray} {k : Nat} (hk : k < s.size) (h : bt s k < 48 ∨ 57 < bt s k) : rdS lim s = -1 := by
  unfold rdS
  refine dig_not (k := k) (by rw [bt_len]; exact hk) ?_ lim
  unfold bt at h; omega
theorem rd_lim (l : List UInt8) : rdI 10000000 l = rdI 1000000 l ∨ (1000000 ≤ rdI 10000000 l ∧ rdI 1000000 l = -1) := by
  unfold rdI
  by_cases h : l.all isDig = true ∧ l ≠ [] ∧ decL (valL l) = l
  · by_cases h1 : valL l < 1000000
    · left; rw [if_pos ⟨h.1, h.2.1, h.2.2, by omega⟩, if_pos ⟨h.1, h.2.1, h.2.2, h1⟩]
    · by_cases h2 : valL l < 10000000
      · right; rw [if_pos ⟨h.1, h.2.1, h.2.2, h2⟩, if_neg (fun c => h1 c.2.2.2)]; omega
      · left; rw [if_neg (fun c => h2 c.2.2.2), if_neg (fun c => h1 c.2.2.2)]
  · left; rw [if_neg (fun c => h ⟨c.1, c.2.1, c.2.2.1⟩), if_neg (fun c => h ⟨c.1, c.2.1, c.2.2.1⟩)]

/-- the number of the first k bytes -/
def vt (s : ByteArray) (k : Nat) : Nat := valL (s.data.toList.take k)
theorem vt_zero (s : ByteArray) : vt s 0 = 0 := by unfold vt; simp [valL]
theorem vt_succ {s : ByteArray} {k : Nat} (h : k < s.size) (h0 : 48 ≤ bt s k) : ((vt s (k + 1) : Nat) : Int) = (vt s k : Int) * 10 + (bt s k - 48) := by
  have := val_take s.data.toList k (by rw [bt_len]; exact h)
  unfold vt; unfold bt at h0 ⊢; omega
theorem vt_le {s : ByteArray} {k : Nat} (h : k ≤ s.size) : vt s k ≤ valL s.data.toList := val_le _ (by rw [bt_len]; exact h)
theorem vt_bd {s : ByteArray} {k : Nat} (h : k ≤ s.size) (hd : ∀ j, j < k → 48 ≤ bt s j ∧ bt s j ≤ 57) : vt s k < 10 ^ k :=
  val_bd k (by rw [bt_len]; exact h) (fun j hj => by have := hd j hj; unfold bt at this; omega)
theorem bt_head {s : ByteArray} (h : 0 < s.size) : s.data.toList.head? = some 48 ↔ bt s 0 = 48 := by
  unfold bt
  have hl : 0 < s.data.toList.length := by rw [bt_len]; exact h
  cases hc : s.data.toList with
  | nil => rw [hc] at hl; simp at hl
  | cons x t =>
    show some x = some 48 ↔ ((x.toNat : Nat) : Int) = 48
    constructor
    · intro e; injection e with e; subst e; rfl
    · intro e
      have : x = 48 := UInt8.toNat_inj.1 (by have e48 : (48 : UInt8).toNat = 48 := rfl; omega)
      rw [this]
theorem all_dig {s : ByteArray} (hd : ∀ j, j < s.size → 48 ≤ bt s j ∧ bt s j ≤ 57) : s.data.toList.all isDig = true :=
  dig_all (fun j hj => by have := hd j (by rw [← bt_len]; exact hj); unfold bt at this; omega)
theorem ne_nil {s : ByteArray} (h : 0 < s.size) : s.data.toList ≠ [] := by
  rw [← bt_len] at h; exact List.length_pos_iff.1 h
theorem rdS_empty (lim : Nat) {s : ByteArray} (h : s.size = 0) : rdS lim s = -1 :=
  rd_no (fun c => c.2.1 (List.length_eq_zero_iff.1 (by rw [bt_len]; exact h)))
theorem rdS_lead (lim : Nat) {s : ByteArray} (h : 1 < s.size) (h0 : bt s 0 = 48) : rdS lim s = -1 := by
  refine rd_no (fun c => ?_)
  have := (dec_iff c.2.1 c.1).1 c.2.2.1
  rw [bt_len] at this
  rcases this with h1 | h1
  · omega
  · exact h1 ((bt_head (by omega)).2 h0)
theorem rdS_long {s : ByteArray} (h : 7 < s.size) : rdS 10000000 s = -1 := by
  refine rd_no (fun c => ?_)
  have := dec_len 6 (valL s.data.toList) c.2.2.2
  rw [c.2.2.1, bt_len] at this
  omega
theorem rdS_big {lim : Nat} {s : ByteArray} {k : Nat} (h : k ≤ s.size) (hv : lim ≤ vt s k) : rdS lim s = -1 := by
  refine rd_no (fun c => ?_)
  have := vt_le h
  omega
theorem rdS_full {lim : Nat} {s : ByteArray} (h : 0 < s.size) (hd : ∀ j, j < s.size → 48 ≤ bt s j ∧ bt s j ≤ 57) (h0 : s.size = 1 ∨ bt s 0 ≠ 48) (hv : vt s s.size < lim) : rdS lim s = (vt s s.size : Int) := by
  have e : vt s s.size = valL s.data.toList := by unfold vt; rw [← bt_len, List.take_length]
  rw [e] at hv ⊢
  refine rd_yes (all_dig hd) (ne_nil h) ((dec_iff (ne_nil h) (all_dig hd)).2 ?_) hv
  rw [bt_len]
  rcases h0 with h0 | h0
  · exact .inl h0
  · exact .inr (fun c => h0 ((bt_head h).1 c))
/-- as the model reads: by the text of the number that it has read -/
theorem rdS_text {lim : Nat} {s : ByteArray} (h : 0 < s.size) (hd : ∀ j, j < s.size → 48 ≤ bt s j ∧ bt s j ≤ 57) (hv : vt s s.size < lim) :
    rdS lim s = if s.toList == (txt (decL (vt s s.size))).toList then (vt s s.size : Int) else -1 := by
  have e : vt s s.size = valL s.data.toList := by unfold vt; rw [← bt_len, List.take_length]
  rw [ByteArray.toList_eq, ByteArray.toList_eq, txt_list]
  rw [e] at hv ⊢
  split
  · next c => exact rd_yes (all_dig hd) (ne_nil h) (beq_iff_eq.1 c).symm hv
  · next c => exact rd_no (fun d => c (beq_iff_eq.2 d.2.2.1.symm))

/-- ParseFrac: whether there is one, and its numbers -/
def pnum (s : ByteArray) : Int := rdS 1000000 (s.extract 0 (idxI 47 s).toNat)
def pden (s : ByteArray) : Int := rdS 1000000 (s.extract ((idxI 47 s).toNat + 1) s.size)
def pok (s : ByteArray) : Bool := decide (0 ≤ idxI 47 s) && Wsh.vfB (pnum s) (pden s)
theorem vf_lim (a b : ByteArray) : Wsh.vfB (rdS 10000000 a) (rdS 10000000 b) = Wsh.vfB (rdS 1000000 a) (rdS 1000000 b) ∧ (Wsh.vfB (rdS 1000000 a) (rdS 1000000 b) = true → rdS 10000000 a = rdS 1000000 a ∧ rdS 10000000 b = rdS 1000000 b) := by
  have h1 := rd_lim a.data.toList
  have h2 := rd_lim b.data.toList
  unfold rdS
  rcases h1 with h1 | ⟨h1, h1'⟩
  · rcases h2 with h2 | ⟨h2, h2'⟩
    · rw [h1, h2]; exact ⟨rfl, fun _ => ⟨rfl, rfl⟩⟩
    · refine ⟨?_, fun h => ?_⟩
      · rw [Bool.eq_iff_iff, Wsh.vfB_iff, Wsh.vfB_iff]; constructor <;> intro h <;> omega
      · rw [Wsh.vfB_iff] at h; omega
  · refine ⟨?_, fun h => ?_⟩
    · rw [Bool.eq_iff_iff, Wsh.vfB_iff, Wsh.vfB_iff]; constructor <;> intro h <;> omega
    · rw [Wsh.vfB_iff] at h; omega
/-- the text of a fraction -/
def frT (n d : Int) : ByteArray := txt (decL n.toNat ++ 47 :: decL d.toNat)
/-- what was read is written back -/
theorem fr_back {s : ByteArray} (h : pok s = true) : frT (pnum s) (pden s) = s := by
  unfold pok at h
  rw [Bool.and_eq_true, decide_eq_true_eq, Wsh.vfB_iff] at h
  obtain ⟨h0, h1, h2, h3, h4, _⟩ := h
  rcases idx_or 47 s with ⟨k, hk, hb, _, hi⟩ | ⟨_, hi⟩
  · have e1 : (idxI 47 s).toNat = k := by rw [hi]; rfl
    have a := rd_back (lim := 1000000) (l := (s.extract 0 k).data.toList) (by unfold pnum at h3; rw [e1] at h3; exact h3)
    have b := rd_back (lim := 1000000) (l := (s.extract (k + 1) s.size).data.toList) (by unfold pden at h1; rw [e1] at h1; exact Int.le_trans (by omega) h1)
    unfold frT pnum pden
    rw [e1]
    unfold rdS
    rw [a.1, b.1, ext_data, ext_data]
    conv => rhs; rw [← txt_of s]
    congr 1
    have hk' : k < s.data.toList.length := by rw [bt_len]; exact hk
    have hm : (47 : UInt8) = s.data.toList[k] := by
      unfold bt at hb
      rw [List.getD_eq_getElem?_getD, List.getElem?_eq_getElem hk'] at hb
      apply UInt8.toNat_inj.1
      have hb' : ((s.data.toList[k]).toNat : Int) = ((47 : Nat) : Int) := hb
      have e47 : (47 : UInt8).toNat = 47 := rfl
      omega
    rw [List.drop_zero, Nat.sub_zero, hm, List.take_of_length_le (l := s.data.toList.drop (k + 1)) (by rw [List.length_drop, bt_len]; omega), ← List.drop_eq_getElem_cons hk', List.take_append_drop]
  · omega
theorem dig_ne {n j : Nat} (h : j < (decL n).length) : ((decL n)[j]).toNat ≠ 47 := by
  have := List.all_eq_true.1 (dig_dec n) _ (List.getElem_mem h)
  rw [isDig_iff] at this; omega
theorem frT_list (n d : Int) : (frT n d).data.toList = decL n.toNat ++ 47 :: decL d.toNat := rfl
theorem frT_size (n d : Int) : (frT n d).size = (decL n.toNat).length + 1 + (decL d.toNat).length := by
  rw [← bt_len, frT_list]; simp; omega
/-- what is written is read back -/
theorem fr_read {n d : Int} (h : Wsh.vfB n d = true) : pok (frT n d) = true ∧ pnum (frT n d) = n ∧ pden (frT n d) = d := by
  have h' := (Wsh.vfB_iff n d).1 h
  obtain ⟨h1, h2, h3, h4, _⟩ := h'
  have hs := frT_size n d
  have hi : idxI 47 (frT n d) = (decL n.toNat).length := by
    refine idx_is (by omega) ?_ (fun j hj => ?_)
    · unfold bt; rw [frT_list, List.getD_eq_getElem?_getD, List.getElem?_append_right (Nat.le_refl _)]; simp
    · unfold bt; rw [frT_list, List.getD_eq_getElem?_getD, List.getElem?_append_left hj, List.getElem?_eq_getElem hj]
      have := dig_ne hj
      simp; omega
  have e1 : (idxI 47 (frT n d)).toNat = (decL n.toNat).length := by rw [hi]; rfl
  have a : pnum (frT n d) = n := by
    unfold pnum rdS
    rw [e1, ext_data, frT_list, List.drop_zero, Nat.sub_zero, List.take_left, rd_dec (by omega)]; omega
  have b : pden (frT n d) = d := by
    unfold pden rdS
    rw [e1, ext_data, frT_list, List.drop_append, List.drop_eq_nil_of_le (by omega), List.nil_append, show (decL n.toNat).length + 1 - (decL n.toNat).length = 1 by omega]
    show rdI _ (List.take _ (decL d.toNat)) = d
    rw [List.take_of_length_le (by omega), rd_dec (by omega)]; omega
  refine ⟨?_, a, b⟩
  unfold pok
  rw [a, b, h, hi, decide_eq_true (by omega)]; rfl
end Go.Proofs.Ythagafkjlecagab
namespace Go.Proofs.Ythagafkjlecagab

/-- pieces with a byte between them -/
def joinL (c : UInt8) : List (List UInt8) → List UInt8
  | [] => []
  | [a] => a
  | a :: b :: r => a ++ c :: joinL c (b :: r)
theorem join_one (c : UInt8) (a : List UInt8) : joinL c [a] = a := rfl
theorem join_cons (c : UInt8) (a : List UInt8) {r : List (List UInt8)} (h : r ≠ []) : joinL c (a :: r) = a ++ c :: joinL c r := by
  cases r with
  | nil => exact absurd rfl h
  | cons b r => rfl
theorem join_snoc (c : UInt8) : ∀ (P : List (List UInt8)) (a : List UInt8), P ≠ [] → joinL c (P ++ [a]) = joinL c P ++ c :: a := by
  intro P
  induction P with
  | nil => intro a h; exact absurd rfl h
  | cons x t ih =>
    intro a _
    by_cases ht : t = []
    · subst ht; rfl
    · rw [List.cons_append, join_cons c x (by simp), join_cons c x ht, ih a ht]; simp
theorem join_last (c : UInt8) : ∀ (P : List (List UInt8)) (a b : List UInt8), joinL c (P ++ [a ++ b]) = joinL c (P ++ [a]) ++ b := by
  intro P
  induction P with
  | nil => intro a b; rfl
  | cons x t ih =>
    intro a b
    rw [List.cons_append, join_cons c x (by simp), List.cons_append, join_cons c x (by simp), ih a b]; simp
/-- what follows a first piece without the byte is known -/
theorem span_eq {c : UInt8} : ∀ {a b x y : List UInt8}, c ∉ a → c ∉ b → a ++ c :: x = b ++ c :: y → a = b ∧ x = y := by
  intro a
  induction a with
  | nil =>
    intro b x y _ hb h
    cases b with
    | nil => injection h with _ h; exact ⟨rfl, h⟩
    | cons z t => injection h with h1 _; exact absurd (by simp [h1]) hb
  | cons z t ih =>
    intro b x y ha hb h
    cases b with
    | nil => injection h with h1 _; exact absurd (by simp [h1]) ha
    | cons u s =>
      injection h with h1 h2
      obtain ⟨e1, e2⟩ := ih (fun m => ha (by simp [m])) (fun m => hb (by simp [m])) h2
      exact ⟨by rw [h1, e1], e2⟩
/-- pieces without the byte are known by what they are joined to -/
theorem join_inj {c : UInt8} : ∀ (P Q : List (List UInt8)), P ≠ [] → Q ≠ [] → (∀ a ∈ P, c ∉ a) → (∀ a ∈ Q, c ∉ a) → joinL c P = joinL c Q → P = Q := by
  intro P
  induction P with
  | nil => intro Q h; exact absurd rfl h
  | cons a t ih =>
    intro Q _ hq hP hQ h
    cases Q with
    | nil => exact absurd rfl hq
    | cons b s =>
      have ha := hP a (by simp)
      have hb := hQ b (by simp)
      by_cases ht : t = []
      · subst ht
        by_cases hs : s = []
        · subst hs; rw [join_one, join_one] at h; rw [h]
        · rw [join_one, join_cons c b hs] at h
          exact absurd (by rw [h]; simp) ha
      · by_cases hs : s = []
        · subst hs
          rw [join_one, join_cons c a ht] at h
          exact absurd (by rw [← h]; simp) hb
        · rw [join_cons c a ht, join_cons c b hs] at h
          obtain ⟨e1, e2⟩ := span_eq ha hb h
          rw [e1, ih s ht hs (fun x m => hP x (by simp [m])) (fun x m => hQ x (by simp [m])) e2]
/-- a part of a text, as bytes -/
def cutB (s : ByteArray) (a b : Nat) : List UInt8 := (s.extract a b).data.toList
theorem cutB_succ (s : ByteArray) {a k : Nat} (h : a ≤ k) (hk : k < s.size) : cutB s a (k + 1) = cutB s a k ++ [s.data.toList.getD k 0] := by
  unfold cutB
  rw [ext_data, ext_data, show k + 1 - a = (k - a) + 1 by omega]
  have hl : k - a < (s.data.toList.drop a).length := by rw [List.length_drop, bt_len]; omega
  rw [List.take_succ_eq_append_getElem hl, List.getElem_drop, List.getD_eq_getElem?_getD, List.getElem?_eq_getElem (by rw [bt_len]; exact hk)]
  simp [show a + (k - a) = k by omega]
theorem cutB_nil (s : ByteArray) (k : Nat) : cutB s k k = [] := by
  unfold cutB; rw [ext_data]; simp
theorem bt_is {s : ByteArray} {k : Nat} {c : UInt8} : bt s k = (c.toNat : Int) ↔ s.data.toList.getD k 0 = c := by
  unfold bt
  constructor
  · intro h; exact UInt8.toNat_inj.1 (by omega)
  · intro h; rw [h]
/-- the pieces so far, as bytes -/
def pcs (c : UInt8) (s : ByteArray) (k : Nat) : List (List UInt8) := (cutTo (c.toNat : Int) s k).1.map (fun x => x.data.toList) ++ [cutB s (cutTo (c.toNat : Int) s k).2 k]
theorem pcs_facts (c : UInt8) (s : ByteArray) : ∀ k, k ≤ s.size → joinL c (pcs c s k) = cutB s 0 k ∧ ∀ a ∈ pcs c s k, c ∉ a := by
  intro k
  induction k with
  | zero =>
    intro _
    show joinL c ([] ++ [cutB s 0 0]) = _ ∧ ∀ a ∈ ([] ++ [cutB s 0 0] : List (List UInt8)), c ∉ a
    refine ⟨rfl, fun a ha => ?_⟩
    rw [cutB_nil] at ha
    simp at ha; subst ha; simp
  | succ k ih =>
    intro hk
    obtain ⟨i1, i2⟩ := ih (by omega)
    have hb := (cutTo_bd (c.toNat : Int) s k).1
    have hz := cutB_succ s (a := 0) (Nat.zero_le k) (by omega)
    by_cases h : bt s k = (c.toNat : Int)
    · have e : pcs c s (k + 1) = pcs c s k ++ [[]] := by
        unfold pcs
        rw [cutTo_hit h]
        simp only [List.map_append, List.map_cons, List.map_nil, cutB_nil]
        rfl
      rw [e, join_snoc c _ _ (by unfold pcs; simp), i1, hz, bt_is.1 h]
      refine ⟨rfl, fun a ha => ?_⟩
      rcases List.mem_append.1 ha with ha | ha
      · exact i2 a ha
      · simp at ha; subst ha; simp
    · have e : pcs c s (k + 1) = (cutTo (c.toNat : Int) s k).1.map (fun x => x.data.toList) ++ [cutB s (cutTo (c.toNat : Int) s k).2 k ++ [s.data.toList.getD k 0]] := by
        unfold pcs
        rw [cutTo_miss h, cutB_succ s hb (by omega)]
      rw [e, join_last, hz, ← i1]
      refine ⟨rfl, fun a ha => ?_⟩
      rcases List.mem_append.1 ha with ha | ha
      · exact i2 a (by unfold pcs; simp [ha])
      · simp only [List.mem_singleton] at ha
        subst ha
        intro hc
        rcases List.mem_append.1 hc with hc | hc
        · exact i2 _ (by unfold pcs; simp) hc
        · simp only [List.mem_singleton] at hc
          exact h (bt_is.2 hc.symm)
/-- the pieces of a text, as bytes -/
theorem cutS_facts (c : UInt8) (s : ByteArray) : joinL c ((cutS (c.toNat : Int) s).map (fun x => x.data.toList)) = s.data.toList ∧ ∀ a ∈ cutS (c.toNat : Int) s, c ∉ a.data.toList := by
  obtain ⟨h1, h2⟩ := pcs_facts c s s.size (Nat.le_refl _)
  have e : (cutS (c.toNat : Int) s).map (fun x => x.data.toList) = pcs c s s.size := by
    unfold cutS pcs
    rw [List.map_append]; rfl
  have ez : cutB s 0 s.size = s.data.toList := by
    unfold cutB; rw [ext_data, List.drop_zero, Nat.sub_zero]; exact List.take_of_length_le (by rw [bt_len]; omega)
  refine ⟨by rw [e, h1, ez], fun a ha => h2 _ (by rw [← e]; exact List.mem_map_of_mem ha)⟩
theorem cutS_ne (c : Int) (s : ByteArray) : cutS c s ≠ [] := by unfold cutS; simp
theorem map_txt (Q : List ByteArray) : (Q.map (fun x => x.data.toList)).map txt = Q := by
  induction Q with
  | nil => rfl
  | cons x t ih => rw [List.map_cons, List.map_cons, ih, txt_of]
/-- pieces without the byte come back -/
theorem cut_join {c : UInt8} {P : List (List UInt8)} (hP : P ≠ []) (hc : ∀ a ∈ P, c ∉ a) : cutS (c.toNat : Int) (txt (joinL c P)) = P.map txt := by
  obtain ⟨h1, h2⟩ := cutS_facts c (txt (joinL c P))
  rw [txt_list] at h1
  have := join_inj _ P (by simp [cutS_ne]) hP (fun a ha => by obtain ⟨x, hx, rfl⟩ := List.mem_map.1 ha; exact h2 x hx) hc h1
  exact (map_txt _).symm.trans (congrArg (List.map txt) this)
/-- a text is its pieces joined -/
theorem join_cut (c : UInt8) (s : ByteArray) : txt (joinL c ((cutS (c.toNat : Int) s).map (fun x => x.data.toList))) = s := by rw [(cutS_facts c s).1, txt_of]
end Go.Proofs.Ythagafkjlecagab
namespace Go.Proofs.Ythagafkjlecagab

/-- a line: an owner and a fraction -/
def lineB (o n d : Int) : List UInt8 := decL o.toNat ++ 32 :: (frT n d).data.toList
theorem dec_no {c : UInt8} (hc : c.toNat < 48) (n : Nat) : c ∉ decL n := fun h => by
  have := List.all_eq_true.1 (dig_dec n) _ h
  rw [isDig_iff] at this; omega
theorem frT_no {c : UInt8} (hc : c.toNat < 47) (n d : Int) : c ∉ (frT n d).data.toList := fun h => by
  rw [frT_list] at h
  rcases List.mem_append.1 h with h | h
  · exact dec_no (by omega) _ h
  · rcases List.mem_cons.1 h with h | h
    · rw [h] at hc; exact absurd hc (by decide)
    · exact dec_no (by omega) _ h
theorem line_no (o n d : Int) : (10 : UInt8) ∉ lineB o n d := fun h => by
  unfold lineB at h
  rcases List.mem_append.1 h with h | h
  · exact dec_no (by decide) _ h
  · rcases List.mem_cons.1 h with h | h
    · exact absurd h (by decide)
    · exact frT_no (by decide) _ _ h
/-- the words of a line -/
theorem line_cut (o n d : Int) : cutS 32 (txt (lineB o n d)) = [txt (decL o.toNat), frT n d] := by
  have := cut_join (c := 32) (P := [decL o.toNat, (frT n d).data.toList]) (by simp) (fun a ha => by
    rcases List.mem_cons.1 ha with rfl | ha
    · exact dec_no (by decide) _
    · simp only [List.mem_singleton] at ha; subst ha; exact frT_no (by decide) _ _)
  rw [show joinL 32 [decL o.toNat, (frT n d).data.toList] = lineB o n d from rfl] at this
  rw [show ((32 : UInt8).toNat : Int) = 32 from rfl] at this
  rw [this]
  simp [txt_of]
/-- a line of two words that are a number and a fraction is the line of these -/
theorem line_back {x a b : ByteArray} (h : cutS 32 x = [a, b]) (ho : 0 ≤ rdS 1000000 a) (hp : pok b = true) : txt (lineB (rdS 1000000 a) (pnum b) (pden b)) = x := by
  have hj := join_cut 32 x
  rw [show ((32 : UInt8).toNat : Int) = 32 from rfl, h] at hj
  unfold lineB
  rw [fr_back hp]
  have := (rd_back (lim := 1000000) (l := a.data.toList) ho).1
  unfold rdS
  rw [this]
  exact hj
/-- the text of lines -/
def textB (T : List (Int × Int × Int)) : List UInt8 := T.flatMap (fun h => lineB h.1 h.2.1 h.2.2 ++ [10])
theorem text_join (T : List (Int × Int × Int)) : textB T = joinL 10 (T.map (fun h => lineB h.1 h.2.1 h.2.2) ++ [[]]) := by
  induction T with
  | nil => rfl
  | cons h t ih =>
    rw [List.map_cons, List.cons_append, join_cons 10 _ (by simp), ← ih]
    show (lineB h.1 h.2.1 h.2.2 ++ [10]) ++ textB t = _
    simp
/-- the lines of a text -/
theorem text_cut (T : List (Int × Int × Int)) : cutS 10 (txt (textB T)) = T.map (fun h => txt (lineB h.1 h.2.1 h.2.2)) ++ [txt []] := by
  have := cut_join (c := 10) (P := T.map (fun h => lineB h.1 h.2.1 h.2.2) ++ [[]]) (by simp) (fun a ha => by
    rcases List.mem_append.1 ha with ha | ha
    · obtain ⟨h, _, rfl⟩ := List.mem_map.1 ha; exact line_no _ _ _
    · simp only [List.mem_singleton] at ha; subst ha; simp)
  rw [← text_join, show ((10 : UInt8).toNat : Int) = 10 from rfl] at this
  rw [this, List.map_append, List.map_map]; rfl
/-- a text whose last piece is empty is the text of its lines -/
theorem text_back {s : ByteArray} {T : List (Int × Int × Int)} (h : cutS 10 s = T.map (fun h => txt (lineB h.1 h.2.1 h.2.2)) ++ [txt []]) : txt (textB T) = s := by
  have hj := join_cut 10 s
  rw [show ((10 : UInt8).toNat : Int) = 10 from rfl, h, List.map_append, List.map_map] at hj
  rw [text_join]
  exact hj
theorem text_app (A B : List (Int × Int × Int)) : textB (A ++ B) = textB A ++ textB B := by unfold textB; rw [List.flatMap_append]
end Go.Proofs.Ythagafkjlecagab
namespace Go.Proofs.Ythagafkjlecagab
set_option linter.unusedSimpArgs false
set_option linter.unusedVariables false
/-- a deed as its numbers -/
structure Dd where
  k : Int
  o : Int
  t : Int
  n : Int
  d : Int
  zs : List Int
def dd0 : Dd := ⟨0, 0, 0, 0, 0, []⟩
/-- an event as its numbers -/
structure Ev where
  k : Int
  dd : Dd
  at_ : Int
  nu : Int
def ev0 : Ev := ⟨0, dd0, 0, 0⟩
def kSell : List UInt8 := [115, 101, 108, 108]
def kInh : List UInt8 := [105, 110, 104, 101, 114, 105, 116]
def kJoin : List UInt8 := [106, 111, 105, 110]
def kTurns : List UInt8 := [116, 117, 114, 110, 115]
def kSwap : List UInt8 := [115, 119, 97, 112]
def kGate : List UInt8 := [103, 97, 116, 101]
def kDig : List UInt8 := [100, 105, 103]
def kHour : List UInt8 := [104, 111, 117, 114]
def nT (n : Int) : List UInt8 := decL n.toNat
def ownB (n : Int) : Bool := decide (1 ≤ n) && decide (n ≤ 999)
def smlB (n : Int) : Bool := decide (0 ≤ n) && decide (n ≤ 9999)
theorem own_iff {n : Int} : ownB n = true ↔ 1 ≤ n ∧ n ≤ 999 := by unfold ownB; simp
theorem sml_iff {n : Int} : smlB n = true ↔ 0 ≤ n ∧ n ≤ 9999 := by unfold smlB; simp
/-- the words of a deed, none if it has no text -/
def deedW (x : Dd) : List (List UInt8) :=
  if ownB x.o = true ∧ x.zs.length ≤ 12 then
    if x.k = 1 then (if x.zs.all ownB = true then kInh :: nT x.o :: x.zs.map nT else [])
    else if ownB x.t = true then
      (if x.k = 2 then [kJoin, nT x.o, nT x.t]
       else if x.k = 0 ∧ Wsh.vfB x.n x.d = true then [kSell, nT x.o, nT x.t, (frT x.n x.d).data.toList] else [])
    else []
  else []
/-- the words of an event, none if it has no text -/
def evW (e : Ev) : List (List UInt8) :=
  if smlB e.at_ = true ∧ smlB e.nu = true then
    if e.k = 0 then deedW e.dd
    else if e.k = 1 then [kTurns, nT e.nu]
    else if e.k = 2 then [kSwap, nT e.at_, nT e.nu]
    else if e.k = 3 then [kGate, nT e.at_, nT e.nu]
    else if e.k = 4 then [kDig, nT e.at_, nT e.nu]
    else if e.k = 5 then [kHour, nT e.nu]
    else []
  else []
def evT (e : Ev) : List UInt8 := joinL 32 (evW e)
def fmE (e : Ev) : ByteArray := txt (evT e)
/-- what a text names, and 0 elsewhere -/
def canD (x : Dd) : Dd := if x.k = 1 then ⟨1, x.o, 0, 0, 0, x.zs⟩ else if x.k = 2 then ⟨2, x.o, x.t, 0, 0, []⟩ else ⟨0, x.o, x.t, x.n, x.d, []⟩
def canE (e : Ev) : Ev :=
  if e.k = 1 then ⟨1, dd0, 0, e.nu⟩ else if e.k = 2 then ⟨2, dd0, e.at_, e.nu⟩ else if e.k = 3 then ⟨3, dd0, e.at_, e.nu⟩ else if e.k = 4 then ⟨4, dd0, e.at_, e.nu⟩
  else if e.k = 5 then ⟨5, dd0, 0, e.nu⟩ else ⟨0, canD e.dd, 0, 0⟩
theorem deed_kinds (x : Dd) (h : deedW x ≠ []) : x.k = 0 ∨ x.k = 1 ∨ x.k = 2 := by
  unfold deedW at h
  by_cases a : x.k = 1
  · exact .inr (.inl a)
  by_cases b : x.k = 2
  · exact .inr (.inr b)
  by_cases c : x.k = 0
  · exact .inl c
  exfalso; apply h
  have q : ¬ (x.k = 0 ∧ Wsh.vfB x.n x.d = true) := fun q => c q.1
  rw [if_neg a, if_neg b, if_neg q]
  split
  · split <;> rfl
  · rfl
theorem ev_kinds (e : Ev) (h : evW e ≠ []) : (e.k = 0 ∨ e.k = 1 ∨ e.k = 2 ∨ e.k = 3 ∨ e.k = 4 ∨ e.k = 5) ∧ smlB e.at_ = true ∧ smlB e.nu = true := by
  unfold evW at h
  by_cases s : smlB e.at_ = true ∧ smlB e.nu = true
  · rw [if_pos s] at h
    refine ⟨?_, s⟩
    by_cases c0 : e.k = 0
    · omega
    rw [if_neg c0] at h
    by_cases c1 : e.k = 1
    · omega
    rw [if_neg c1] at h
    by_cases c2 : e.k = 2
    · omega
    rw [if_neg c2] at h
    by_cases c3 : e.k = 3
    · omega
    rw [if_neg c3] at h
    by_cases c4 : e.k = 4
    · omega
    rw [if_neg c4] at h
    by_cases c5 : e.k = 5
    · omega
    rw [if_neg c5] at h
    exact absurd rfl h
  · rw [if_neg s] at h; exact absurd rfl h
theorem can_deed {x : Dd} (h : deedW x ≠ []) : deedW (canD x) = deedW x := by
  rcases deed_kinds x h with e | e | e
  · have c : canD x = ⟨0, x.o, x.t, x.n, x.d, []⟩ := by unfold canD; rw [e]; rfl
    rw [c]
    unfold deedW at h ⊢
    rw [e] at h ⊢
    by_cases a : ownB x.o = true ∧ x.zs.length ≤ 12
    · rw [if_pos a, if_pos ⟨a.1, by simp⟩]; rfl
    · rw [if_neg a] at h; exact absurd rfl h
  · have c : canD x = ⟨1, x.o, 0, 0, 0, x.zs⟩ := by unfold canD; rw [e]; rfl
    rw [c]
    unfold deedW
    rw [e]; rfl
  · have c : canD x = ⟨2, x.o, x.t, 0, 0, []⟩ := by unfold canD; rw [e]; rfl
    rw [c]
    unfold deedW at h ⊢
    rw [e] at h ⊢
    by_cases a : ownB x.o = true ∧ x.zs.length ≤ 12
    · rw [if_pos a, if_pos ⟨a.1, by simp⟩]; rfl
    · rw [if_neg a] at h; exact absurd rfl h
theorem can_words {e : Ev} (h : evW e ≠ []) : evW (canE e) = evW e := by
  obtain ⟨hk, h1, h2⟩ := ev_kinds e h
  have z : smlB 0 = true := rfl
  rcases hk with c | c | c | c | c | c
  · have q : canE e = ⟨0, canD e.dd, 0, 0⟩ := by unfold canE; rw [c]; rfl
    have w : evW e = deedW e.dd := by unfold evW; rw [if_pos ⟨h1, h2⟩, if_pos c]
    rw [w] at h ⊢
    rw [q]
    exact can_deed h
  all_goals
    have q := c
    unfold canE evW
    rw [c]
    simp [h1, h2, z]
theorem can_twice (e : Ev) : canE (canE e) = canE e := by
  unfold canE
  by_cases c1 : e.k = 1
  · rw [if_pos c1]; rfl
  rw [if_neg c1]
  by_cases c2 : e.k = 2
  · rw [if_pos c2]; rfl
  rw [if_neg c2]
  by_cases c3 : e.k = 3
  · rw [if_pos c3]; rfl
  rw [if_neg c3]
  by_cases c4 : e.k = 4
  · rw [if_pos c4]; rfl
  rw [if_neg c4]
  by_cases c5 : e.k = 5
  · rw [if_pos c5]; rfl
  rw [if_neg c5]
  show (⟨0, canD (canD e.dd), 0, 0⟩ : Ev) = _
  congr 1
  unfold canD
  by_cases d1 : e.dd.k = 1
  · rw [if_pos d1]; rfl
  rw [if_neg d1]
  by_cases d2 : e.dd.k = 2
  · rw [if_pos d2]; rfl
  rw [if_neg d2]; rfl
/-- words hold no space, and no newline -/
theorem kw_no {c : UInt8} (hc : c.toNat < 47) : c ∉ kSell ∧ c ∉ kInh ∧ c ∉ kJoin ∧ c ∉ kTurns ∧ c ∉ kSwap ∧ c ∉ kGate ∧ c ∉ kDig ∧ c ∉ kHour := by
  have key : ∀ l : List UInt8, (∀ b ∈ l, 47 ≤ b.toNat) → c ∉ l := fun l h m => by have := h c m; omega
  refine ⟨key _ ?_, key _ ?_, key _ ?_, key _ ?_, key _ ?_, key _ ?_, key _ ?_, key _ ?_⟩ <;> decide
theorem words_no {c : UInt8} (hc : c.toNat < 47) (e : Ev) : ∀ a ∈ evW e, c ∉ a := by
  obtain ⟨w1, w2, w3, w4, w5, w6, w7, w8⟩ := kw_no hc
  have wn : ∀ n : Int, c ∉ nT n := fun n => dec_no (by omega) _
  have wf : ∀ n d : Int, c ∉ (frT n d).data.toList := fun n d => frT_no (by omega) n d
  intro a ha
  unfold evW deedW at ha
  repeat' split at ha
  all_goals
    simp only [List.mem_cons, List.mem_map, List.not_mem_nil, or_false, false_and, and_false] at ha
  all_goals first
    | exact ha.elim
    | (rcases ha with rfl | rfl | ⟨z, _, rfl⟩ <;> first | assumption | exact wn _)
    | (rcases ha with rfl | rfl | rfl | rfl <;> first | assumption | exact wn _ | exact wf _ _)
    | (rcases ha with rfl | rfl | rfl <;> first | assumption | exact wn _)
    | (rcases ha with rfl | rfl <;> first | assumption | exact wn _)
theorem joinL_no {c d : UInt8} (hcd : c ≠ d) : ∀ P : List (List UInt8), (∀ a ∈ P, c ∉ a) → c ∉ joinL d P := by
  intro P
  induction P with
  | nil => intro _ m; cases m
  | cons x t ih =>
    intro h m
    by_cases ht : t = []
    · subst ht; exact h x (by simp) m
    · rw [join_cons d x ht] at m
      rcases List.mem_append.1 m with m | m
      · exact h x (by simp) m
      · rcases List.mem_cons.1 m with m | m
        · exact hcd m
        · exact ih (fun a ha => h a (by simp [ha])) m
theorem evT_no (e : Ev) : (10 : UInt8) ∉ evT e := joinL_no (by decide) _ (words_no (by decide) e)
theorem nT_ne (n : Int) : nT n ≠ [] := dec_ne _
theorem words_ne (e : Ev) : ∀ a ∈ evW e, a ≠ [] := by
  intro a ha
  unfold evW deedW at ha
  repeat' split at ha
  all_goals
    simp only [List.mem_cons, List.mem_map, List.not_mem_nil, or_false, false_and, and_false] at ha
  all_goals first
    | exact ha.elim
    | (rcases ha with rfl | rfl | ⟨z, _, rfl⟩ <;> first | exact nT_ne _ | decide)
    | (rcases ha with rfl | rfl | rfl | rfl <;> first | exact nT_ne _ | decide | (rw [frT_list]; simp))
    | (rcases ha with rfl | rfl | rfl <;> first | exact nT_ne _ | decide)
    | (rcases ha with rfl | rfl <;> first | exact nT_ne _ | decide)
theorem evT_nil (e : Ev) : evT e = [] ↔ evW e = [] := by
  constructor
  · intro h
    cases hw : evW e with
    | nil => rfl
    | cons a t =>
      exfalso
      have ha := words_ne e a (by rw [hw]; simp)
      unfold evT at h
      rw [hw] at h
      by_cases ht : t = []
      · subst ht; exact ha h
      · rw [join_cons 32 a ht] at h
        simp at h
  · intro h; unfold evT; rw [h]; rfl
theorem words_len (e : Ev) : (evW e).length ≤ 14 := by
  unfold evW deedW
  repeat' split
  all_goals first
    | simp; done
    | (simp only [List.length_cons, List.length_map]; rename_i h _ _; have := h.2; omega)
    | (simp only [List.length_cons, List.length_map, List.length_nil]; omega)
end Go.Proofs.Ythagafkjlecagab
