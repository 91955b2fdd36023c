/- Contracts and facts of functions of this program, in build order. Conditions: those stated in each. -/
import Derived.Test.YtgmmdpdlekpmfaaGrA
import Derived.Test.YtgmmdpdlekpmfaaGrD
import Derived.Test.YtgmmdpdlekpmfaaGrC
import Derived.Test.YtgmmdpdlekpmfaaGrB
import Derived.Laws.Concat
import Derived.Laws.Strings2
import Derived.Deep.RegionHeld3
import Derived.Deep.RegionWith
import Derived.RegionTactic
import Derived.BigRegion
import Derived.Deep.Matrix
import Derived.Deep.QuietTactic
import Derived.BigQuiet
import Derived.Deep.Slices
import Derived.ChangeSame
import Derived.ChangeArms
import Derived.ChangeSlices
import Derived.ProofKit
namespace Go.Proofs.Ytgmmdpdlekpmfaa

def ofDig (d : Nat) : UInt8 := UInt8.ofNat (48 + d)
/-- the decimal text of a number -/
def decL (n : Nat) : List UInt8 := if n < 10 then [ofDig n] else decL (n / 10) ++ [ofDig (n % 10)]
termination_by n
decreasing_by omega
theorem decL_lt {n : Nat} (h : n < 10) : decL n = [ofDig n] := by unfold decL; rw [if_pos h]
theorem decL_ge {n : Nat} (h : ¬ n < 10) : decL n = decL (n / 10) ++ [ofDig (n % 10)] := by
  conv => lhs; unfold decL
  rw [if_neg h]
def isDig (b : UInt8) : Bool := decide (48 ≤ b.toNat) && decide (b.toNat ≤ 57)
theorem isDig_iff (b : UInt8) : isDig b = true ↔ 48 ≤ b.toNat ∧ b.toNat ≤ 57 := by unfold isDig; simp
/-- the number of a text -/
def valL (l : List UInt8) : Nat := l.foldl (fun a b => 10 * a + (b.toNat - 48)) 0
theorem valL_snoc (l : List UInt8) (b : UInt8) : valL (l ++ [b]) = 10 * valL l + (b.toNat - 48) := by unfold valL; simp
theorem ofDig_toNat {d : Nat} (h : d < 10) : (ofDig d).toNat = 48 + d := by
  unfold ofDig; simp; omega
theorem isDig_of {d : Nat} (h : d < 10) : isDig (ofDig d) = true := by rw [isDig_iff, ofDig_toNat h]; omega
theorem ofDig_of {b : UInt8} (h : isDig b = true) : ofDig (b.toNat - 48) = b := by
  rw [isDig_iff] at h
  apply UInt8.toNat_inj.1
  rw [ofDig_toNat (by omega)]; omega
theorem dec_facts : ∀ k n : Nat, n ≤ k → valL (decL n) = n ∧ (decL n).all isDig = true ∧ decL n ≠ [] ∧ (1 ≤ n → (decL n).head? ≠ some 48) := by
  intro k
  induction k with
  | zero =>
    intro n h
    have e : n = 0 := by omega
    subst e
    rw [decL_lt (by omega)]
    exact ⟨rfl, rfl, by simp, fun h => by omega⟩
  | succ k ih =>
    intro n h
    by_cases h10 : n < 10
    · rw [decL_lt h10]
      refine ⟨?_, ?_, by simp, fun h1 e => ?_⟩
      · have := valL_snoc [] (ofDig n)
        rw [List.nil_append] at this
        rw [this, ofDig_toNat h10]
        show 10 * 0 + _ = _
        omega
      · simp [isDig_of h10]
      · simp at e
        have := congrArg UInt8.toNat e
        rw [ofDig_toNat h10] at this
        have e2 : (48 : UInt8).toNat = 48 := rfl
        omega
    · obtain ⟨a, b, c, d⟩ := ih (n / 10) (by omega)
      rw [decL_ge h10]
      refine ⟨?_, ?_, by simp, fun _ e => d (by omega) ?_⟩
      · rw [valL_snoc, a, ofDig_toNat (by omega)]; omega
      · rw [List.all_append, b, List.all_cons, isDig_of (Nat.mod_lt _ (by omega))]; rfl
      · cases hd : decL (n / 10) with
        | nil => exact absurd hd c
        | cons x t => rw [hd] at e; exact e
theorem val_dec (n : Nat) : valL (decL n) = n := (dec_facts n n (Nat.le_refl _)).1
theorem dig_dec (n : Nat) : (decL n).all isDig = true := (dec_facts n n (Nat.le_refl _)).2.1
theorem dec_ne (n : Nat) : decL n ≠ [] := (dec_facts n n (Nat.le_refl _)).2.2.1
theorem head_dec {n : Nat} (h : 1 ≤ n) : (decL n).head? ≠ some 48 := (dec_facts n n (Nat.le_refl _)).2.2.2 h
theorem dec_len : ∀ k n : Nat, n < 10 ^ (k + 1) → (decL n).length ≤ k + 1 := by
  intro k
  induction k with
  | zero => intro n h; rw [decL_lt (by simpa using h)]; simp
  | succ k ih =>
    intro n h
    by_cases h10 : n < 10
    · rw [decL_lt h10]; simp
    · rw [decL_ge h10, List.length_append]
      have h2 : n / 10 < 10 ^ (k + 1) := by
        rw [Nat.div_lt_iff_lt_mul (by omega)]; rw [Nat.pow_succ] at h; exact h
      have := ih _ h2
      simp; omega
/-- a text of digits without a leading zero is the text of its number -/
theorem dec_of : ∀ (k : Nat) (l : List UInt8), l.length = k + 1 → l.all isDig = true → (l.head? ≠ some 48 → 1 ≤ valL l) ∧ ((l.length = 1 ∨ l.head? ≠ some 48) → decL (valL l) = l) := by
  intro k
  induction k with
  | zero =>
    intro l hl hd
    match l, hl with
    | [b], _ =>
      have hb : isDig b = true := by simpa using hd
      have hv : valL [b] = b.toNat - 48 := by have := valL_snoc [] b; rw [List.nil_append] at this; rw [this]; show 10 * 0 + _ = _; omega
      have h2 := (isDig_iff b).1 hb
      refine ⟨fun h => ?_, fun _ => ?_⟩
      · rw [hv]
        have h3 : b.toNat ≠ 48 := fun e => h (by
          have : b = 48 := UInt8.toNat_inj.1 (by rw [e]; rfl)
          rw [this]; rfl)
        omega
      · rw [hv, decL_lt (by omega), ofDig_of hb]
  | succ k ih =>
    intro l hl hd
    have hne : l ≠ [] := by intro e; rw [e] at hl; simp at hl
    obtain ⟨l', b, rfl⟩ : ∃ l' b, l = l' ++ [b] := ⟨l.dropLast, l.getLast hne, (List.dropLast_concat_getLast hne).symm⟩
    have hl' : l'.length = k + 1 := by simpa using hl
    rw [List.all_append, Bool.and_eq_true] at hd
    have hb : isDig b = true := by simpa using hd.2
    have h2 := (isDig_iff b).1 hb
    obtain ⟨i1, i2⟩ := ih l' hl' hd.1
    have hh : (l' ++ [b]).head? = l'.head? := by
      cases l' with
      | nil => simp at hl'
      | cons x t => rfl
    refine ⟨fun h => ?_, fun h => ?_⟩
    · rw [hh] at h
      rw [valL_snoc]
      have := i1 h
      omega
    · have h3 : l'.head? ≠ some 48 := by
        rcases h with h | h
        · rw [hl] at h; omega
        · rwa [hh] at h
      have h4 := i1 h3
      rw [valL_snoc, decL_ge (by omega), show (10 * valL l' + (b.toNat - 48)) / 10 = valL l' by omega, i2 (.inr h3), show (10 * valL l' + (b.toNat - 48)) % 10 = b.toNat - 48 by omega, ofDig_of hb]
/-- whether a text of digits is the text of its number -/
theorem dec_iff {l : List UInt8} (hne : l ≠ []) (hd : l.all isDig = true) : decL (valL l) = l ↔ (l.length = 1 ∨ l.head? ≠ some 48) := by
  have hp : 0 < l.length := List.length_pos_iff.2 hne
  refine ⟨fun h => ?_, (dec_of (l.length - 1) l (by omega) hd).2⟩
  by_cases hv : 1 ≤ valL l
  · right; have := head_dec hv; rwa [h] at this
  · left
    have e : valL l = 0 := by omega
    rw [e, decL_lt (by omega)] at h
    rw [← h]; rfl

/-- readNumber: the number below lim whose text is l, -1 if there is none -/
def rdI (lim : Nat) (l : List UInt8) : Int := if l.all isDig = true ∧ l ≠ [] ∧ decL (valL l) = l ∧ valL l < lim then (valL l : Int) else -1
theorem rd_yes {lim : Nat} {l : List UInt8} (h1 : l.all isDig = true) (h2 : l ≠ []) (h3 : decL (valL l) = l) (h4 : valL l < lim) : rdI lim l = (valL l : Int) := by unfold rdI; rw [if_pos ⟨h1, h2, h3, h4⟩]
theorem rd_no {lim : Nat} {l : List UInt8} (h : ¬ (l.all isDig = true ∧ l ≠ [] ∧ decL (valL l) = l ∧ valL l < lim)) : rdI lim l = -1 := by unfold rdI; rw [if_neg h]
theorem rd_bd (lim : Nat) (l : List UInt8) : -1 ≤ rdI lim l ∧ rdI lim l < (lim : Int) ∨ rdI lim l = -1 := by
  unfold rdI; split
  · left; omega
  · right; rfl
theorem rd_dec {lim n : Nat} (h : n < lim) : rdI lim (decL n) = n := by
  rw [rd_yes (dig_dec n) (dec_ne n) (by rw [val_dec]) (by rw [val_dec]; exact h), val_dec]
theorem rd_back {lim : Nat} {l : List UInt8} (h : 0 ≤ rdI lim l) : decL (rdI lim l).toNat = l ∧ (rdI lim l).toNat < lim := by
  unfold rdI at *
  split at h
  · next c => rw [if_pos c]; exact ⟨by simpa using c.2.2.1, by simpa using c.2.2.2⟩
  · omega
theorem val_take (l : List UInt8) (k : Nat) (h : k < l.length) : valL (l.take (k + 1)) = 10 * valL (l.take k) + ((l.getD k 0).toNat - 48) := by
  rw [List.take_succ_eq_append_getElem h, valL_snoc, List.getD_eq_getElem?_getD, List.getElem?_eq_getElem h]; rfl
theorem val_mono (l : List UInt8) : ∀ n k, k + n ≤ l.length → valL (l.take k) ≤ valL (l.take (k + n)) := by
  intro n
  induction n with
  | zero => intro k _; exact Nat.le_refl _
  | succ n ih =>
    intro k h
    have h1 := ih k (by omega)
    have h2 := val_take l (k + n) (by omega)
    rw [show k + (n + 1) = k + n + 1 by omega]
    omega
theorem val_le (l : List UInt8) {k : Nat} (h : k ≤ l.length) : valL (l.take k) ≤ valL l := by
  have := val_mono l (l.length - k) k (by omega)
  rwa [show k + (l.length - k) = l.length by omega, List.take_length] at this
/-- the first k bytes are digits -/
def digTo (l : List UInt8) (k : Nat) : Prop := ∀ j, j < k → 48 ≤ (l.getD j 0).toNat ∧ (l.getD j 0).toNat ≤ 57
theorem dig_all {l : List UInt8} (h : digTo l l.length) : l.all isDig = true := by
  rw [List.all_eq_true]
  intro b hb
  obtain ⟨i, hi, rfl⟩ := List.getElem_of_mem hb
  have := h i hi
  rw [List.getD_eq_getElem?_getD, List.getElem?_eq_getElem hi] at this
  rw [isDig_iff]; exact this
theorem dig_not {l : List UInt8} {k : Nat} (hk : k < l.length) (h : ¬ (48 ≤ (l.getD k 0).toNat ∧ (l.getD k 0).toNat ≤ 57)) (lim : Nat) : rdI lim l = -1 := by
  apply rd_no
  rintro ⟨h1, _⟩
  rw [List.all_eq_true] at h1
  have := h1 _ (List.getElem_mem hk)
  rw [isDig_iff] at this
  rw [List.getD_eq_getElem?_getD, List.getElem?_eq_getElem hk] at h
  exact h this
theorem val_bd {l : List UInt8} : ∀ k, k ≤ l.length → digTo l k → valL (l.take k) < 10 ^ k := by
  intro k
  induction k with
  | zero => intro _ _; simp [valL]
  | succ k ih =>
    intro hk hd
    have h1 := ih (by omega) (fun j hj => hd j (by omega))
    have h2 := hd k (by omega)
    rw [val_take l k (by omega), Nat.pow_succ]
    omega
end Go.Proofs.Ytgmmdpdlekpmfaa
namespace Go.Proofs.Ytgmmdpdlekpmfaa

/-- the text of some bytes -/
def txt (l : List UInt8) : ByteArray := ⟨l.toArray⟩
def digs : ByteArray := { data := #[48, 49, 50, 51, 52, 53, 54, 55, 56, 57] }
theorem digs_ext (d : Nat) (h : d < 10) : ({ data := #[48, 49, 50, 51, 52, 53, 54, 55, 56, 57] } : ByteArray).extract d (d + 1) = txt [ofDig d] := by
  rcases d with _ | _ | _ | _ | _ | _ | _ | _ | _ | _ | d
  all_goals first | omega | rfl
theorem txt_size (l : List UInt8) : (txt l).size = l.length := by show l.toArray.size = _; simp
theorem txt_list (l : List UInt8) : (txt l).data.toList = l := rfl
theorem txt_app (a b : List UInt8) : txt a ++ txt b = txt (a ++ b) := ByteArray.mk_append_mk a b
theorem txt_of (s : ByteArray) : txt s.data.toList = s := by
  obtain ⟨⟨l⟩⟩ := s; rfl
theorem txt_inj {a b : List UInt8} (h : txt a = txt b) : a = b := by
  have := congrArg (fun s : ByteArray => s.data.toList) h
  exact this
/-- what decimal has written so far -/
def DecI (n k : Nat) (l : List UInt8) : Prop := l.length ≤ (decL n).length ∧ ((k < 10 ∧ l = decL n) ∨ (10 ≤ k ∧ decL (k / 10) ++ l = decL n))
theorem decI_start (n : Nat) : DecI n n [ofDig (n % 10)] := by
  refine ⟨List.length_pos_iff.2 (dec_ne n), ?_⟩
  by_cases h : n < 10
  · left; exact ⟨h, by rw [decL_lt h, Nat.mod_eq_of_lt h]⟩
  · right; exact ⟨by omega, (decL_ge h).symm⟩
theorem decI_step {n k : Nat} {l : List UInt8} (h : DecI n k l) (hk : 10 ≤ k) : DecI n (k / 10) (ofDig (k / 10 % 10) :: l) := by
  obtain ⟨_, h | ⟨_, h⟩⟩ := h
  · omega
  · have e : ∀ x : List UInt8, x ++ ofDig (k / 10 % 10) :: l = (x ++ [ofDig (k / 10 % 10)]) ++ l := fun x => by simp
    by_cases h1 : k / 10 < 10
    · have e2 : decL n = ofDig (k / 10 % 10) :: l := by rw [← h, decL_lt h1, Nat.mod_eq_of_lt h1]; rfl
      exact ⟨by rw [e2]; exact Nat.le_refl _, .inl ⟨h1, e2.symm⟩⟩
    · have e2 : decL (k / 10 / 10) ++ ofDig (k / 10 % 10) :: l = decL n := by rw [e, ← decL_ge h1, h]
      exact ⟨by rw [← e2]; simp, .inr ⟨by omega, e2⟩⟩

/-- byte k of a text, as a number -/
def bt (s : ByteArray) (k : Nat) : Int := ((s.data.toList.getD k 0).toNat : Int)
theorem bt_len (s : ByteArray) : s.data.toList.length = s.size := by simp
theorem get_bt (s : ByteArray) : ∀ (n : Nat) (h : n < s.size), ((s[n]'h).toNat : Int) = bt s n := fun n h => by
  unfold bt
  rw [List.getD_eq_getElem?_getD, List.getElem?_eq_getElem (by rw [bt_len]; exact h)]
  rfl
theorem bt_bd (s : ByteArray) (k : Nat) : 0 ≤ bt s k ∧ bt s k ≤ 255 := by
  unfold bt
  have := (s.data.toList.getD k 0).toNat_lt
  omega
/-- the place of the first byte c, -1 if there is none -/
def idxI (c : Nat) (s : ByteArray) : Int := if s.data.toList.findIdx (fun b => b.toNat == c) < s.size then (s.data.toList.findIdx (fun b => b.toNat == c) : Int) else -1
theorem find_is {c : Nat} {s : ByteArray} {k : Nat} (hk : k < s.size) (h : bt s k = c) (hb : ∀ j, j < k → bt s j ≠ c) : s.data.toList.findIdx (fun b => b.toNat == c) = k := by
  have hk' : k < s.data.toList.length := by rw [bt_len]; exact hk
  rw [List.findIdx_eq hk']
  refine ⟨?_, fun j hj => ?_⟩
  · unfold bt at h
    rw [List.getD_eq_getElem?_getD, List.getElem?_eq_getElem hk'] at h
    simp at h ⊢; omega
  · have := hb j hj
    unfold bt at this
    rw [List.getD_eq_getElem?_getD, List.getElem?_eq_getElem (by omega)] at this
    simp at this ⊢; omega
theorem find_none {c : Nat} {s : ByteArray} (hb : ∀ j, j < s.size → bt s j ≠ c) : s.data.toList.findIdx (fun b => b.toNat == c) = s.size := by
  rw [← bt_len, List.findIdx_eq_length]
  intro b hm
  obtain ⟨i, hi, rfl⟩ := List.getElem_of_mem hm
  have := hb i (by rw [← bt_len]; exact hi)
  unfold bt at this
  rw [List.getD_eq_getElem?_getD, List.getElem?_eq_getElem hi] at this
  simp at this ⊢; omega
theorem idx_is {c : Nat} {s : ByteArray} {k : Nat} (hk : k < s.size) (h : bt s k = c) (hb : ∀ j, j < k → bt s j ≠ c) : idxI c s = k := by
  unfold idxI; rw [find_is hk h hb, if_pos hk]
theorem idx_none {c : Nat} {s : ByteArray} (hb : ∀ j, j < s.size → bt s j ≠ c) : idxI c s = -1 := by
  unfold idxI; rw [find_none hb, if_neg (by omega)]
/-- a text has byte c or not -/
theorem idx_or (c : Nat) (s : ByteArray) : (∃ k, k < s.size ∧ bt s k = c ∧ (∀ j, j < k → bt s j ≠ c) ∧ idxI c s = k) ∨ ((∀ j, j < s.size → bt s j ≠ c) ∧ idxI c s = -1) := by
  have key : ∀ n, n ≤ s.size → (∃ k, k < n ∧ bt s k = c ∧ ∀ j, j < k → bt s j ≠ c) ∨ ∀ j, j < n → bt s j ≠ c := by
    intro n
    induction n with
    | zero => intro _; right; intro j hj; omega
    | succ n ih =>
      intro hn
      rcases ih (by omega) with ⟨k, hk, h1, h2⟩ | h
      · exact .inl ⟨k, by omega, h1, h2⟩
      · by_cases hc : bt s n = c
        · exact .inl ⟨n, by omega, hc, h⟩
        · right; intro j hj
          by_cases e : j = n
          · subst e; exact hc
          · exact h j (by omega)
  rcases key s.size (Nat.le_refl _) with ⟨k, hk, h1, h2⟩ | h
  · exact .inl ⟨k, hk, h1, h2, idx_is hk h1 h2⟩
  · exact .inr ⟨h, idx_none h⟩

/-- the parts of the first k bytes between the bytes c, and where the last one begins -/
def cutTo (c : Int) (s : ByteArray) : Nat → List ByteArray × Nat
  | 0 => ([], 0)
  | k + 1 => if bt s k = c then ((cutTo c s k).1 ++ [s.extract (cutTo c s k).2 k], k + 1) else cutTo c s k
theorem cutTo_hit {c : Int} {s : ByteArray} {k : Nat} (h : bt s k = c) : cutTo c s (k + 1) = ((cutTo c s k).1 ++ [s.extract (cutTo c s k).2 k], k + 1) := by
  show (if _ then _ else _) = _; rw [if_pos h]
theorem cutTo_miss {c : Int} {s : ByteArray} {k : Nat} (h : ¬ bt s k = c) : cutTo c s (k + 1) = cutTo c s k := by
  show (if _ then _ else _) = _; rw [if_neg h]
theorem cutTo_bd (c : Int) (s : ByteArray) : ∀ k, (cutTo c s k).2 ≤ k ∧ (cutTo c s k).1.length ≤ k := by
  intro k
  induction k with
  | zero => exact ⟨Nat.le_refl _, Nat.le_refl _⟩
  | succ k ih =>
    by_cases h : bt s k = c
    · rw [cutTo_hit h]; simp; omega
    · rw [cutTo_miss h]; omega
/-- all parts -/
def cutS (c : Int) (s : ByteArray) : List ByteArray := (cutTo c s s.size).1 ++ [s.extract (cutTo c s s.size).2 s.size]
theorem cut_quiet {c : Int} {s : ByteArray} : ∀ (n k : Nat), (∀ j, k ≤ j → j < k + n → bt s j ≠ c) → cutTo c s (k + n) = cutTo c s k := by
  intro n
  induction n with
  | zero => intro k _; rfl
  | succ n ih =>
    intro k h
    rw [show k + (n + 1) = k + n + 1 by omega, cutTo_miss (h (k + n) (by omega) (by omega)), ih k (fun j h1 h2 => h j h1 (by omega))]
theorem cut_none {c : Int} {s : ByteArray} (h : ∀ j, j < s.size → bt s j ≠ c) : cutS c s = [s.extract 0 s.size] := by
  have := cut_quiet (c := c) (s := s) s.size 0 (fun j _ h2 => h j (by omega))
  unfold cutS
  rw [Nat.zero_add] at this
  rw [this]; rfl
theorem cut_at {c : Int} {s : ByteArray} {k : Nat} (h1 : bt s k = c) (h2 : ∀ j, j < k → bt s j ≠ c) : cutTo c s (k + 1) = ([s.extract 0 k], k + 1) := by
  have := cut_quiet (c := c) (s := s) k 0 (fun j _ h => h2 j (by omega))
  rw [Nat.zero_add] at this
  rw [cutTo_hit h1, this]; rfl
theorem cut_one {c : Int} {s : ByteArray} {k : Nat} (hk : k < s.size) (h1 : bt s k = c) (h2 : ∀ j, j < k → bt s j ≠ c) (h3 : ∀ j, k < j → j < s.size → bt s j ≠ c) : cutS c s = [s.extract 0 k, s.extract (k + 1) s.size] := by
  have := cut_quiet (c := c) (s := s) (s.size - (k + 1)) (k + 1) (fun j h h' => h3 j (by omega) (by omega))
  rw [show k + 1 + (s.size - (k + 1)) = s.size by omega, cut_at h1 h2] at this
  unfold cutS
  rw [this]; rfl
theorem cut_grows (c : Int) (s : ByteArray) : ∀ n k, (cutTo c s k).1.length ≤ (cutTo c s (k + n)).1.length := by
  intro n
  induction n with
  | zero => intro k; exact Nat.le_refl _
  | succ n ih =>
    intro k
    have := ih k
    rw [show k + (n + 1) = k + n + 1 by omega]
    by_cases h : bt s (k + n) = c
    · rw [cutTo_hit h]; simp; omega
    · rw [cutTo_miss h]; exact this
theorem cut_more {c : Int} {s : ByteArray} {k j : Nat} (h1 : bt s k = c) (h2 : ∀ j, j < k → bt s j ≠ c) (hj : k < j) (hjs : j < s.size) (h3 : bt s j = c) : 2 < (cutS c s).length := by
  have a := cut_grows c s (j - (k + 1)) (k + 1)
  rw [show k + 1 + (j - (k + 1)) = j by omega, cut_at h1 h2] at a
  have b : (cutTo c s (j + 1)).1.length = (cutTo c s j).1.length + 1 := by rw [cutTo_hit h3]; simp
  have d := cut_grows c s (s.size - (j + 1)) (j + 1)
  rw [show j + 1 + (s.size - (j + 1)) = s.size by omega] at d
  unfold cutS
  simp at a ⊢; omega

theorem ext_data (s : ByteArray) (a b : Nat) : (s.extract a b).data.toList = (s.data.toList.drop a).take (b - a) := by
  obtain ⟨⟨l⟩⟩ := s
  rw [ByteArray.extract_mk]
theorem bt_ext (s : ByteArray) (a b j : Nat) (h : a + j < b) : bt (s.extract a b) j = bt s (a + j) := by
  unfold bt
  rw [ext_data, List.getD_eq_getElem?_getD, List.getD_eq_getElem?_getD, List.getElem?_take_of_lt (by omega), List.getElem?_drop]
/-- the number of a text -/
def rdS (lim : Nat) (s : ByteArray) : Int := rdI lim s.data.toList
theorem rdS_bd (lim : Nat) (s : ByteArray) : -1 ≤ rdS lim s ∧ (rdS lim s < lim ∨ rdS lim s = -1) := by
  unfold rdS; have := rd_bd lim s.data.toList; omega
theorem rdS_not {lim : Nat} {s : ByteArray} {k : Nat} (hk : k < s.size) (h : bt s k < 48 ∨ 57 < bt s k) : rdS lim s = -1 := by
  unfold rdS
  refine dig_not (k := k) (by rw [bt_len]; exact hk) ?_ lim
  unfold bt at h; omega
theorem rd_lim (l : List UInt8) : rdI 10000000 l = rdI 1000000 l ∨ (1000000 ≤ rdI 10000000 l ∧ rdI 1000000 l = -1) := by
  unfold rdI
  by_cases h : l.all isDig = true ∧ l ≠ [] ∧ decL (valL l) = l
  · by_cases h1 : valL l < 1000000
    · left; rw [if_pos ⟨h.1, h.2.1, h.2.2, by omega⟩, if_pos ⟨h.1, h.2.1, h.2.2, h1⟩]
    · by_cases h2 : valL l < 10000000
      · right; rw [if_pos ⟨h.1, h.2.1, h.2.2, h2⟩, if_neg (fun c => h1 c.2.2.2)]; omega
      · left; rw [if_neg (fun c => h2 c.2.2.2), if_neg (fun c => h1 c.2.2.2)]
  · left; rw [if_neg (fun c => h ⟨c.1, c.2.1, c.2.2.1⟩), if_neg (fun c => h ⟨c.1, c.2.1, c.2.2.1⟩)]

/-- the number of the first k bytes -/
def vt (s : ByteArray) (k : Nat) : Nat := valL (s.data.toList.take k)
theorem vt_zero (s : ByteArray) : vt s 0 = 0 := by unfold vt; simp [valL]
theorem vt_succ {s : ByteArray} {k : Nat} (h : k < s.size) (h0 : 48 ≤ bt s k) : ((vt s (k + 1) : Nat) : Int) = (vt s k : Int) * 10 + (bt s k - 48) := by
  have := val_take s.data.toList k (by rw [bt_len]; exact h)
  unfold vt; unfold bt at h0 ⊢; omega
theorem vt_le {s : ByteArray} {k : Nat} (h : k ≤ s.size) : vt s k ≤ valL s.data.toList := val_le _ (by rw [bt_len]; exact h)
theorem vt_bd {s : ByteArray} {k : Nat} (h : k ≤ s.size) (hd : ∀ j, j < k → 48 ≤ bt s j ∧ bt s j ≤ 57) : vt s k < 10 ^ k :=
  val_bd k (by rw [bt_len]; exact h) (fun j hj => by have := hd j hj; unfold bt at this; omega)
theorem bt_head {s : ByteArray} (h : 0 < s.size) : s.data.toList.head? = some 48 ↔ bt s 0 = 48 := by
  unfold bt
  have hl : 0 < s.data.toList.length := by rw [bt_len]; exact h
  cases hc : s.data.toList with
  | nil => rw [hc] at hl; simp at hl
  | cons x t =>
    show some x = some 48 ↔ ((x.toNat : Nat) : Int) = 48
    constructor
    · intro e; injection e with e; subst e; rfl
    · intro e
      have : x = 48 := UInt8.toNat_inj.1 (by have e48 : (48 : UInt8).toNat = 48 := rfl; omega)
      rw [this]
theorem all_dig {s : ByteArray} (hd : ∀ j, j < s.size → 48 ≤ bt s j ∧ bt s j ≤ 57) : s.data.toList.all isDig = true :=
  dig_all (fun j hj => by have := hd j (by rw [← bt_len]; exact hj); unfold bt at this; omega)
theorem ne_nil {s : ByteArray} (h : 0 < s.size) : s.data.toList ≠ [] := by
  rw [← bt_len] at h; exact List.length_pos_iff.1 h
theorem rdS_empty (lim : Nat) {s : ByteArray} (h : s.size = 0) : rdS lim s = -1 :=
  rd_no (fun c => c.2.1 (List.length_eq_zero_iff.1 (by rw [bt_len]; exact h)))
theorem rdS_lead (lim : Nat) {s : ByteArray} (h : 1 < s.size) (h0 : bt s 0 = 48) : rdS lim s = -1 := by
  refine rd_no (fun c => ?_)
  have := (dec_iff c.2.1 c.1).1 c.2.2.1
  rw [bt_len] at this
  rcases this with h1 | h1
  · omega
  · exact h1 ((bt_head (by omega)).2 h0)
theorem rdS_long {s : ByteArray} (h : 7 < s.size) : rdS 10000000 s = -1 := by
  refine rd_no (fun c => ?_)
  have := dec_len 6 (valL s.data.toList) c.2.2.2
  rw [c.2.2.1, bt_len] at this
  omega
theorem rdS_big {lim : Nat} {s : ByteArray} {k : Nat} (h : k ≤ s.size) (hv : lim ≤ vt s k) : rdS lim s = -1 := by
  refine rd_no (fun c => ?_)
  have := vt_le h
  omega
theorem rdS_full {lim : Nat} {s : ByteArray} (h : 0 < s.size) (hd : ∀ j, j < s.size → 48 ≤ bt s j ∧ bt s j ≤ 57) (h0 : s.size = 1 ∨ bt s 0 ≠ 48) (hv : vt s s.size < lim) : rdS lim s = (vt s s.size : Int) := by
  have e : vt s s.size = valL s.data.toList := by unfold vt; rw [← bt_len, List.take_length]
  rw [e] at hv ⊢
  refine rd_yes (all_dig hd) (ne_nil h) ((dec_iff (ne_nil h) (all_dig hd)).2 ?_) hv
  rw [bt_len]
  rcases h0 with h0 | h0
  · exact .inl h0
  · exact .inr (fun c => h0 ((bt_head h).1 c))
/-- as the model reads: by the text of the number that it has read -/
theorem rdS_text {lim : Nat} {s : ByteArray} (h : 0 < s.size) (hd : ∀ j, j < s.size → 48 ≤ bt s j ∧ bt s j ≤ 57) (hv : vt s s.size < lim) :
    rdS lim s = if s.toList == (txt (decL (vt s s.size))).toList then (vt s s.size : Int) else -1 := by
  have e : vt s s.size = valL s.data.toList := by unfold vt; rw [← bt_len, List.take_length]
  rw [ByteArray.toList_eq, ByteArray.toList_eq, txt_list]
  rw [e] at hv ⊢
  split
  · next c => exact rd_yes (all_dig hd) (ne_nil h) (beq_iff_eq.1 c).symm hv
  · next c => exact rd_no (fun d => c (beq_iff_eq.2 d.2.2.1.symm))

/-- ParseFrac: whether there is one, and its numbers -/
def pnum (s : ByteArray) : Int := rdS 1000000 (s.extract 0 (idxI 47 s).toNat)
def pden (s : ByteArray) : Int := rdS 1000000 (s.extract ((idxI 47 s).toNat + 1) s.size)
def pok (s : ByteArray) : Bool := decide (0 ≤ idxI 47 s) && Wsh.vfB (pnum s) (pden s)
theorem vf_lim (a b : ByteArray) : Wsh.vfB (rdS 10000000 a) (rdS 10000000 b) = Wsh.vfB (rdS 1000000 a) (rdS 1000000 b) ∧ (Wsh.vfB (rdS 1000000 a) (rdS 1000000 b) = true → rdS 10000000 a = rdS 1000000 a ∧ rdS 10000000 b = rdS 1000000 b) := by
  have h1 := rd_lim a.data.toList
  have h2 := rd_lim b.data.toList
  unfold rdS
  rcases h1 with h1 | ⟨h1, h1'⟩
  · rcases h2 with h2 | ⟨h2, h2'⟩
    · rw [h1, h2]; exact ⟨rfl, fun _ => ⟨rfl, rfl⟩⟩
    · refine ⟨?_, fun h => ?_⟩
      · rw [Bool.eq_iff_iff, Wsh.vfB_iff, Wsh.vfB_iff]; constructor <;> intro h <;> omega
      · rw [Wsh.vfB_iff] at h; omega
  · refine ⟨?_, fun h => ?_⟩
    · rw [Bool.eq_iff_iff, Wsh.vfB_iff, Wsh.vfB_iff]; constructor <;> intro h <;> omega
    · rw [Wsh.vfB_iff] at h; omega
/-- the text of a fraction -/
def frT (n d : Int) : ByteArray := txt (decL n.toNat ++ 47 :: decL d.toNat)
/-- what was read is written back -/
theorem fr_back {s : ByteArray} (h : pok s = true) : frT (pnum s) (pden s) = s := by
  unfold pok at h
  rw [Bool.and_eq_true, decide_eq_true_eq, Wsh.vfB_iff] at h
  obtain ⟨h0, h1, h2, h3, h4, _⟩ := h
  rcases idx_or 47 s with ⟨k, hk, hb, _, hi⟩ | ⟨_, hi⟩
  · have e1 : (idxI 47 s).toNat = k := by rw [hi]; rfl
    have a := rd_back (lim := 1000000) (l := (s.extract 0 k).data.toList) (by unfold pnum at h3; rw [e1] at h3; exact h3)
    have b := rd_back (lim := 1000000) (l := (s.extract (k + 1) s.size).data.toList) (by unfold pden at h1; rw [e1] at h1; exact Int.le_trans (by omega) h1)
    unfold frT pnum pden
    rw [e1]
    unfold rdS
    rw [a.1, b.1, ext_data, ext_data]
    conv => rhs; rw [← txt_of s]
    congr 1
    have hk' : k < s.data.toList.length := by rw [bt_len]; exact hk
    have hm : (47 : UInt8) = s.data.toList[k] := by
      unfold bt at hb
      rw [List.getD_eq_getElem?_getD, List.getElem?_eq_getElem hk'] at hb
      apply UInt8.toNat_inj.1
      have hb' : ((s.data.toList[k]).toNat : Int) = ((47 : Nat) : Int) := hb
      have e47 : (47 : UInt8).toNat = 47 := rfl
      omega
    rw [List.drop_zero, Nat.sub_zero, hm, List.take_of_length_le (l := s.data.toList.drop (k + 1)) (by rw [List.length_drop, bt_len]; omega), ← List.drop_eq_getElem_cons hk', List.take_append_drop]
  · omega
theorem dig_ne {n j : Nat} (h : j < (decL n).length) : ((decL n)[j]).toNat ≠ 47 := by
  have := List.all_eq_true.1 (dig_dec n) _ (List.getElem_mem h)
  rw [isDig_iff] at this; omega
theorem frT_list (n d : Int) : (frT n d).data.toList = decL n.toNat ++ 47 :: decL d.toNat := rfl
theorem frT_size (n d : Int) : (frT n d).size = (decL n.toNat).length + 1 + (decL d.toNat).length := by
  rw [← bt_len, frT_list]; simp; omega
/-- what is written is read back -/
theorem fr_read {n d : Int} (h : Wsh.vfB n d = true) : pok (frT n d) = true ∧ pnum (frT n d) = n ∧ pden (frT n d) = d := by
  have h' := (Wsh.vfB_iff n d).1 h
  obtain ⟨h1, h2, h3, h4, _⟩ := h'
  have hs := frT_size n d
  have hi : idxI 47 (frT n d) = (decL n.toNat).length := by
    refine idx_is (by omega) ?_ (fun j hj => ?_)
    · unfold bt; rw [frT_list, List.getD_eq_getElem?_getD, List.getElem?_append_right (Nat.le_refl _)]; simp
    · unfold bt; rw [frT_list, List.getD_eq_getElem?_getD, List.getElem?_append_left hj, List.getElem?_eq_getElem hj]
      have := dig_ne hj
      simp; omega
  have e1 : (idxI 47 (frT n d)).toNat = (decL n.toNat).length := by rw [hi]; rfl
  have a : pnum (frT n d) = n := by
    unfold pnum rdS
    rw [e1, ext_data, frT_list, List.drop_zero, Nat.sub_zero, List.take_left, rd_dec (by omega)]; omega
  have b : pden (frT n d) = d := by
    unfold pden rdS
    rw [e1, ext_data, frT_list, List.drop_append, List.drop_eq_nil_of_le (by omega), List.nil_append, show (decL n.toNat).length + 1 - (decL n.toNat).length = 1 by omega]
    show rdI _ (List.take _ (decL d.toNat)) = d
    rw [List.take_of_length_le (by omega), rd_dec (by omega)]; omega
  refine ⟨?_, a, b⟩
  unfold pok
  rw [a, b, h, hi, decide_eq_true (by omega)]; rfl
end Go.Proofs.Ytgmmdpdlekpmfaa
namespace Go.Proofs.Ytgmmdpdlekpmfaa

/-- pieces with a byte between them -/
def joinL (c : UInt8) : List (List UInt8) → List UInt8
  | [] => []
  | [a] => a
  | a :: b :: r => a ++ c :: joinL c (b :: r)
theorem join_one (c : UInt8) (a : List UInt8) : joinL c [a] = a := rfl
theorem join_cons (c : UInt8) (a : List UInt8) {r : List (List UInt8)} (h : r ≠ []) : joinL c (a :: r) = a ++ c :: joinL c r := by
  cases r with
  | nil => exact absurd rfl h
  | cons b r => rfl
theorem join_snoc (c : UInt8) : ∀ (P : List (List UInt8)) (a : List UInt8), P ≠ [] → joinL c (P ++ [a]) = joinL c P ++ c :: a := by
  intro P
  induction P with
  | nil => intro a h; exact absurd rfl h
  | cons x t ih =>
    intro a _
    by_cases ht : t = []
    · subst ht; rfl
    · rw [List.cons_append, join_cons c x (by simp), join_cons c x ht, ih a ht]; simp
theorem join_last (c : UInt8) : ∀ (P : List (List UInt8)) (a b : List UInt8), joinL c (P ++ [a ++ b]) = joinL c (P ++ [a]) ++ b := by
  intro P
  induction P with
  | nil => intro a b; rfl
  | cons x t ih =>
    intro a b
    rw [List.cons_append, join_cons c x (by simp), List.cons_append, join_cons c x (by simp), ih a b]; simp
/-- what follows a first piece without the byte is known -/
theorem span_eq {c : UInt8} : ∀ {a b x y : List UInt8}, c ∉ a → c ∉ b → a ++ c :: x = b ++ c :: y → a = b ∧ x = y := by
  intro a
  induction a with
  | nil =>
    intro b x y _ hb h
    cases b with
    | nil => injection h with _ h; exact ⟨rfl, h⟩
    | cons z t => injection h with h1 _; exact absurd (by simp [h1]) hb
  | cons z t ih =>
    intro b x y ha hb h
    cases b with
    | nil => injection h with h1 _; exact absurd (by simp [h1]) ha
    | cons u s =>
      injection h with h1 h2
      obtain ⟨e1, e2⟩ := ih (fun m => ha (by simp [m])) (fun m => hb (by simp [m])) h2
      exact ⟨by rw [h1, e1], e2⟩
/-- pieces without the byte are known by what they are joined to -/
theorem join_inj {c : UInt8} : ∀ (P Q : List (List UInt8)), P ≠ [] → Q ≠ [] → (∀ a ∈ P, c ∉ a) → (∀ a ∈ Q, c ∉ a) → joinL c P = joinL c Q → P = Q := by
  intro P
  induction P with
  | nil => intro Q h; exact absurd rfl h
  | cons a t ih =>
    intro Q _ hq hP hQ h
    cases Q with
    | nil => exact absurd rfl hq
    | cons b s =>
      have ha := hP a (by simp)
      have hb := hQ b (by simp)
      by_cases ht : t = []
      · subst ht
        by_cases hs : s = []
        · subst hs; rw [join_one, join_one] at h; rw [h]
        · rw [join_one, join_cons c b hs] at h
          exact absurd (by rw [h]; simp) ha
      · by_cases hs : s = []
        · subst hs
          rw [join_one, join_cons c a ht] at h
          exact absurd (by rw [← h]; simp) hb
        · rw [join_cons c a ht, join_cons c b hs] at h
          obtain ⟨e1, e2⟩ := span_eq ha hb h
          rw [e1, ih s ht hs (fun x m => hP x (by simp [m])) (fun x m => hQ x (by simp [m])) e2]
/-- a part of a text, as bytes -/
def cutB (s : ByteArray) (a b : Nat) : List UInt8 := (s.extract a b).data.toList
theorem cutB_succ (s : ByteArray) {a k : Nat} (h : a ≤ k) (hk : k < s.size) : cutB s a (k + 1) = cutB s a k ++ [s.data.toList.getD k 0] := by
  unfold cutB
  rw [ext_data, ext_data, show k + 1 - a = (k - a) + 1 by omega]
  have hl : k - a < (s.data.toList.drop a).length := by rw [List.length_drop, bt_len]; omega
  rw [List.take_succ_eq_append_getElem hl, List.getElem_drop, List.getD_eq_getElem?_getD, List.getElem?_eq_getElem (by rw [bt_len]; exact hk)]
  simp [show a + (k - a) = k by omega]
theorem cutB_nil (s : ByteArray) (k : Nat) : cutB s k k = [] := by
  unfold cutB; rw [ext_data]; simp
theorem bt_is {s : ByteArray} {k : Nat} {c : UInt8} : bt s k = (c.toNat : Int) ↔ s.data.toList.getD k 0 = c := by
  unfold bt
  constructor
  · intro h; exact UInt8.toNat_inj.1 (by omega)
  · intro h; rw [h]
/-- the pieces so far, as bytes -/
def pcs (c : UInt8) (s : ByteArray) (k : Nat) : List (List UInt8) := (cutTo (c.toNat : Int) s k).1.map (fun x => x.data.toList) ++ [cutB s (cutTo (c.toNat : Int) s k).2 k]
theorem pcs_facts (c : UInt8) (s : ByteArray) : ∀ k, k ≤ s.size → joinL c (pcs c s k) = cutB s 0 k ∧ ∀ a ∈ pcs c s k, c ∉ a := by
  intro k
  induction k with
  | zero =>
    intro _
    show joinL c ([] ++ [cutB s 0 0]) = _ ∧ ∀ a ∈ ([] ++ [cutB s 0 0] : List (List UInt8)), c ∉ a
    refine ⟨rfl, fun a ha => ?_⟩
    rw [cutB_nil] at ha
    simp at ha; subst ha; simp
  | succ k ih =>
    intro hk
    obtain ⟨i1, i2⟩ := ih (by omega)
    have hb := (cutTo_bd (c.toNat : Int) s k).1
    have hz := cutB_succ s (a := 0) (Nat.zero_le k) (by omega)
    by_cases h : bt s k = (c.toNat : Int)
    · have e : pcs c s (k + 1) = pcs c s k ++ [[]] := by
        unfold pcs
        rw [cutTo_hit h]
        simp only [List.map_append, List.map_cons, List.map_nil, cutB_nil]
        rfl
      rw [e, join_snoc c _ _ (by unfold pcs; simp), i1, hz, bt_is.1 h]
      refine ⟨rfl, fun a ha => ?_⟩
      rcases List.mem_append.1 ha with ha | ha
      · exact i2 a ha
      · simp at ha; subst ha; simp
    · have e : pcs c s (k + 1) = (cutTo (c.toNat : Int) s k).1.map (fun x => x.data.toList) ++ [cutB s (cutTo (c.toNat : Int) s k).2 k ++ [s.data.toList.getD k 0]] := by
        unfold pcs
        rw [cutTo_miss h, cutB_succ s hb (by omega)]
      rw [e, join_last, hz, ← i1]
      refine ⟨rfl, fun a ha => ?_⟩
      rcases List.mem_append.1 ha with ha | ha
      · exact i2 a (by unfold pcs; simp [ha])
      · simp only [List.mem_singleton] at ha
        subst ha
        intro hc
        rcases List.mem_append.1 hc with hc | hc
        · exact i2 _ (by unfold pcs; simp) hc
        · simp only [List.mem_singleton] at hc
          exact h (bt_is.2 hc.symm)
/-- the pieces of a text, as bytes -/
theorem cutS_facts (c : UInt8) (s : ByteArray) : joinL c ((cutS (c.toNat : Int) s).map (fun x => x.data.toList)) = s.data.toList ∧ ∀ a ∈ cutS (c.toNat : Int) s, c ∉ a.data.toList := by
  obtain ⟨h1, h2⟩ := pcs_facts c s s.size (Nat.le_refl _)
  have e : (cutS (c.toNat : Int) s).map (fun x => x.data.toList) = pcs c s s.size := by
    unfold cutS pcs
    rw [List.map_append]; rfl
  have ez : cutB s 0 s.size = s.data.toList := by
    unfold cutB; rw [ext_data, List.drop_zero, Nat.sub_zero]; exact List.take_of_length_le (by rw [bt_len]; omega)
  refine ⟨by rw [e, h1, ez], fun a ha => h2 _ (by rw [← e]; exact List.mem_map_of_mem ha)⟩
theorem cutS_ne (c : Int) (s : ByteArray) : cutS c s ≠ [] := by unfold cutS; simp
theorem map_txt (Q : List ByteArray) : (Q.map (fun x => x.data.toList)).map txt = Q := by
  induction Q with
  | nil => rfl
  | cons x t ih => rw [List.map_cons, List.map_cons, ih, txt_of]
/-- pieces without the byte come back -/
theorem cut_join {c : UInt8} {P : List (List UInt8)} (hP : P ≠ []) (hc : ∀ a ∈ P, c ∉ a) : cutS (c.toNat : Int) (txt (joinL c P)) = P.map txt := by
  obtain ⟨h1, h2⟩ := cutS_facts c (txt (joinL c P))
  rw [txt_list] at h1
  have := join_inj _ P (by simp [cutS_ne]) hP (fun a ha => by obtain ⟨x, hx, rfl⟩ := List.mem_map.1 ha; exact h2 x hx) hc h1
  exact (map_txt _).symm.trans (congrArg (List.map txt) this)
/-- a text is its pieces joined -/
theorem join_cut (c : UInt8) (s : ByteArray) : txt (joinL c ((cutS (c.toNat : Int) s).map (fun x => x.data.toList))) = s := by rw [(cutS_facts c s).1, txt_of]
end Go.Proofs.Ytgmmdpdlekpmfaa
namespace Go.Proofs.Ytgmmdpdlekpmfaa

/-- a line: an owner and a fraction -/
def lineB (o n d : Int) : List UInt8 := decL o.toNat ++ 32 :: (frT n d).data.toList
theorem dec_no {c : UInt8} (hc : c.toNat < 48) (n : Nat) : c ∉ decL n := fun h => by
  have := List.all_eq_true.1 (dig_dec n) _ h
  rw [isDig_iff] at this; omega
theorem frT_no {c : UInt8} (hc : c.toNat < 47) (n d : Int) : c ∉ (frT n d).data.toList := fun h => by
  rw [frT_list] at h
  rcases List.mem_append.1 h with h | h
  · exact dec_no (by omega) _ h
  · rcases List.mem_cons.1 h with h | h
    · rw [h] at hc; exact absurd hc (by decide)
    · exact dec_no (by omega) _ h
theorem line_no (o n d : Int) : (10 : UInt8) ∉ lineB o n d := fun h => by
  unfold lineB at h
  rcases List.mem_append.1 h with h | h
  · exact dec_no (by decide) _ h
  · rcases List.mem_cons.1 h with h | h
    · exact absurd h (by decide)
    · exact frT_no (by decide) _ _ h
/-- the words of a line -/
theorem line_cut (o n d : Int) : cutS 32 (txt (lineB o n d)) = [txt (decL o.toNat), frT n d] := by
  have := cut_join (c := 32) (P := [decL o.toNat, (frT n d).data.toList]) (by simp) (fun a ha => by
    rcases List.mem_cons.1 ha with rfl | ha
    · exact dec_no (by decide) _
    · simp only [List.mem_singleton] at ha; subst ha; exact frT_no (by decide) _ _)
  rw [show joinL 32 [decL o.toNat, (frT n d).data.toList] = lineB o n d from rfl] at this
  rw [show ((32 : UInt8).toNat : Int) = 32 from rfl] at this
  rw [this]
  simp [txt_of]
/-- a line of two words that are a number and a fraction is the line of these -/
theorem line_back {x a b : ByteArray} (h : cutS 32 x = [a, b]) (ho : 0 ≤ rdS 1000000 a) (hp : pok b = true) : txt (lineB (rdS 1000000 a) (pnum b) (pden b)) = x := by
  have hj := join_cut 32 x
  rw [show ((32 : UInt8).toNat : Int) = 32 from rfl, h] at hj
  unfold lineB
  rw [fr_back hp]
  have := (rd_back (lim := 1000000) (l := a.data.toList) ho).1
  unfold rdS
  rw [this]
  exact hj
/-- the text of lines -/
def textB (T : List (Int × Int × Int)) : List UInt8 := T.flatMap (fun h => lineB h.1 h.2.1 h.2.2 ++ [10])
theorem text_join (T : List (Int × Int × Int)) : textB T = joinL 10 (T.map (fun h => lineB h.1 h.2.1 h.2.2) ++ [[]]) := by
  induction T with
  | nil => rfl
  | cons h t ih =>
    rw [List.map_cons, List.cons_append, join_cons 10 _ (by simp), ← ih]
    show (lineB h.1 h.2.1 h.2.2 ++ [10]) ++ textB t = _
    simp
/-- the lines of a text -/
theorem text_cut (T : List (Int × Int × Int)) : cutS 10 (txt (textB T)) = T.map (fun h => txt (lineB h.1 h.2.1 h.2.2)) ++ [txt []] := by
  have := cut_join (c := 10) (P := T.map (fun h => lineB h.1 h.2.1 h.2.2) ++ [[]]) (by simp) (fun a ha => by
    rcases List.mem_append.1 ha with ha | ha
    · obtain ⟨h, _, rfl⟩ := List.mem_map.1 ha; exact line_no _ _ _
    · simp only [List.mem_singleton] at ha; subst ha; simp)
  rw [← text_join, show ((10 : UInt8).toNat : Int) = 10 from rfl] at this
  rw [this, List.map_append, List.map_map]; rfl
/-- a text whose last piece is empty is the text of its lines -/
theorem text_back {s : ByteArray} {T : List (Int × Int × Int)} (h : cutS 10 s = T.map (fun h => txt (lineB h.1 h.2.1 h.2.2)) ++ [txt []]) : txt (textB T) = s := by
  have hj := join_cut 10 s
  rw [show ((10 : UInt8).toNat : Int) = 10 from rfl, h, List.map_append, List.map_map] at hj
  rw [text_join]
  exact hj
theorem text_app (A B : List (Int × Int × Int)) : textB (A ++ B) = textB A ++ textB B := by unfold textB; rw [List.flatMap_append]
end Go.Proofs.Ytgmmdpdlekpmfaa
namespace Go.Proofs.Ytgmmdpdlekpmfaa
set_option linter.unusedSimpArgs false
set_option linter.unusedVariables false
/-- a deed as its numbers -/
structure Dd where
  k : Int
  o : Int
  t : Int
  n : Int
  d : Int
  zs : List Int
def dd0 : Dd := ⟨0, 0, 0, 0, 0, []⟩
/-- an event as its numbers -/
structure Ev where
  k : Int
  dd : Dd
  at_ : Int
  nu : Int
def ev0 : Ev := ⟨0, dd0, 0, 0⟩
def kSell : List UInt8 := [115, 101, 108, 108]
def kInh : List UInt8 := [105, 110, 104, 101, 114, 105, 116]
def kJoin : List UInt8 := [106, 111, 105, 110]
def kTurns : List UInt8 := [116, 117, 114, 110, 115]
def kSwap : List UInt8 := [115, 119, 97, 112]
def kGate : List UInt8 := [103, 97, 116, 101]
def kDig : List UInt8 := [100, 105, 103]
def kHour : List UInt8 := [104, 111, 117, 114]
def nT (n : Int) : List UInt8 := decL n.toNat
def ownB (n : Int) : Bool := decide (1 ≤ n) && decide (n ≤ 999)
def smlB (n : Int) : Bool := decide (0 ≤ n) && decide (n ≤ 9999)
theorem own_iff {n : Int} : ownB n = true ↔ 1 ≤ n ∧ n ≤ 999 := by unfold ownB; simp
theorem sml_iff {n : Int} : smlB n = true ↔ 0 ≤ n ∧ n ≤ 9999 := by unfold smlB; simp
/-- the words of a deed, none if it has no text -/
def deedW (x : Dd) : List (List UInt8) :=
  if ownB x.o = true ∧ x.zs.length ≤ 12 then
    if x.k = 1 then (if x.zs.all ownB = true then kInh :: nT x.o :: x.zs.map nT else [])
    else if ownB x.t = true then
      (if x.k = 2 then [kJoin, nT x.o, nT x.t]
       else if x.k = 0 ∧ Wsh.vfB x.n x.d = true then [kSell, nT x.o, nT x.t, (frT x.n x.d).data.toList] else [])
    else []
  else []
/-- the words of an event, none if it has no text -/
def evW (e : Ev) : List (List UInt8) :=
  if smlB e.at_ = true ∧ smlB e.nu = true then
    if e.k = 0 then deedW e.dd
    else if e.k = 1 then [kTurns, nT e.nu]
    else if e.k = 2 then [kSwap, nT e.at_, nT e.nu]
    else if e.k = 3 then [kGate, nT e.at_, nT e.nu]
    else if e.k = 4 then [kDig, nT e.at_, nT e.nu]
    else if e.k = 5 then [kHour, nT e.nu]
    else []
  else []
def evT (e : Ev) : List UInt8 := joinL 32 (evW e)
def fmE (e : Ev) : ByteArray := txt (evT e)
/-- what a text names, and 0 elsewhere -/
def canD (x : Dd) : Dd := if x.k = 1 then ⟨1, x.o, 0, 0, 0, x.zs⟩ else if x.k = 2 then ⟨2, x.o, x.t, 0, 0, []⟩ else ⟨0, x.o, x.t, x.n, x.d, []⟩
def canE (e : Ev) : Ev :=
  if e.k = 1 then ⟨1, dd0, 0, e.nu⟩ else if e.k = 2 then ⟨2, dd0, e.at_, e.nu⟩ else if e.k = 3 then ⟨3, dd0, e.at_, e.nu⟩ else if e.k = 4 then ⟨4, dd0, e.at_, e.nu⟩
  else if e.k = 5 then ⟨5, dd0, 0, e.nu⟩ else ⟨0, canD e.dd, 0, 0⟩
theorem deed_kinds (x : Dd) (h : deedW x ≠ []) : x.k = 0 ∨ x.k = 1 ∨ x.k = 2 := by
  unfold deedW at h
  by_cases a : x.k = 1
  · exact .inr (.inl a)
  by_cases b : x.k = 2
  · exact .inr (.inr b)
  by_cases c : x.k = 0
  · exact .inl c
  exfalso; apply h
  have q : ¬ (x.k = 0 ∧ Wsh.vfB x.n x.d = true) := fun q => c q.1
  rw [if_neg a, if_neg b, if_neg q]
  split
  · split <;> rfl
  · rfl
theorem ev_kinds (e : Ev) (h : evW e ≠ []) : (e.k = 0 ∨ e.k = 1 ∨ e.k = 2 ∨ e.k = 3 ∨ e.k = 4 ∨ e.k = 5) ∧ smlB e.at_ = true ∧ smlB e.nu = true := by
  unfold evW at h
  by_cases s : smlB e.at_ = true ∧ smlB e.nu = true
  · rw [if_pos s] at h
    refine ⟨?_, s⟩
    by_cases c0 : e.k = 0
    · omega
    rw [if_neg c0] at h
    by_cases c1 : e.k = 1
    · omega
    rw [if_neg c1] at h
    by_cases c2 : e.k = 2
    · omega
    rw [if_neg c2] at h
    by_cases c3 : e.k = 3
    · omega
    rw [if_neg c3] at h
    by_cases c4 : e.k = 4
    · omega
    rw [if_neg c4] at h
    by_cases c5 : e.k = 5
    · omega
    rw [if_neg c5] at h
    exact absurd rfl h
  · rw [if_neg s] at h; exact absurd rfl h
theorem can_deed {x : Dd} (h : deedW x ≠ []) : deedW (canD x) = deedW x := by
  rcases deed_kinds x h with e | e | e
  · have c : canD x = ⟨0, x.o, x.t, x.n, x.d, []⟩ := by unfold canD; rw [e]; rfl
    rw [c]
    unfold deedW at h ⊢
    rw [e] at h ⊢
    by_cases a : ownB x.o = true ∧ x.zs.length ≤ 12
    · rw [if_pos a, if_pos ⟨a.1, by simp⟩]; rfl
    · rw [if_neg a] at h; exact absurd rfl h
  · have c : canD x = ⟨1, x.o, 0, 0, 0, x.zs⟩ := by unfold canD; rw [e]; rfl
    rw [c]
    unfold deedW
    rw [e]; rfl
  · have c : canD x = ⟨2, x.o, x.t, 0, 0, []⟩ := by unfold canD; rw [e]; rfl
    rw [c]
    unfold deedW at h ⊢
    rw [e] at h ⊢
    by_cases a : ownB x.o = true ∧ x.zs.length ≤ 12
    · rw [if_pos a, if_pos ⟨a.1, by simp⟩]; rfl
    · rw [if_neg a] at h; exact absurd rfl h
theorem can_words {e : Ev} (h : evW e ≠ []) : evW (canE e) = evW e := by
  obtain ⟨hk, h1, h2⟩ := ev_kinds e h
  have z : smlB 0 = true := rfl
  rcases hk with c | c | c | c | c | c
  · have q : canE e = ⟨0, canD e.dd, 0, 0⟩ := by unfold canE; rw [c]; rfl
    have w : evW e = deedW e.dd := by unfold evW; rw [if_pos ⟨h1, h2⟩, if_pos c]
    rw [w] at h ⊢
    rw [q]
    exact can_deed h
  all_goals
    have q := c
    unfold canE evW
    rw [c]
    simp [h1, h2, z]
theorem can_twice (e : Ev) : canE (canE e) = canE e := by
  unfold canE
  by_cases c1 : e.k = 1
  · rw [if_pos c1]; rfl
  rw [if_neg c1]
  by_cases c2 : e.k = 2
  · rw [if_pos c2]; rfl
  rw [if_neg c2]
  by_cases c3 : e.k = 3
  · rw [if_pos c3]; rfl
  rw [if_neg c3]
  by_cases c4 : e.k = 4
  · rw [if_pos c4]; rfl
  rw [if_neg c4]
  by_cases c5 : e.k = 5
  · rw [if_pos c5]; rfl
  rw [if_neg c5]
  show (⟨0, canD (canD e.dd), 0, 0⟩ : Ev) = _
  congr 1
  unfold canD
  by_cases d1 : e.dd.k = 1
  · rw [if_pos d1]; rfl
  rw [if_neg d1]
  by_cases d2 : e.dd.k = 2
  · rw [if_pos d2]; rfl
  rw [if_neg d2]; rfl
/-- words hold no space, and no newline -/
theorem kw_no {c : UInt8} (hc : c.toNat < 47) : c ∉ kSell ∧ c ∉ kInh ∧ c ∉ kJoin ∧ c ∉ kTurns ∧ c ∉ kSwap ∧ c ∉ kGate ∧ c ∉ kDig ∧ c ∉ kHour := by
  have key : ∀ l : List UInt8, (∀ b ∈ l, 47 ≤ b.toNat) → c ∉ l := fun l h m => by have := h c m; omega
  refine ⟨key _ ?_, key _ ?_, key _ ?_, key _ ?_, key _ ?_, key _ ?_, key _ ?_, key _ ?_⟩ <;> decide
theorem words_no {c : UInt8} (hc : c.toNat < 47) (e : Ev) : ∀ a ∈ evW e, c ∉ a := by
  obtain ⟨w1, w2, w3, w4, w5, w6, w7, w8⟩ := kw_no hc
  have wn : ∀ n : Int, c ∉ nT n := fun n => dec_no (by omega) _
  have wf : ∀ n d : Int, c ∉ (frT n d).data.toList := fun n d => frT_no (by omega) n d
  intro a ha
  unfold evW deedW at ha
  repeat' split at ha
  all_goals
    simp only [List.mem_cons, List.mem_map, List.not_mem_nil, or_false, false_and, and_false] at ha
  all_goals first
    | exact ha.elim
    | (rcases ha with rfl | rfl | ⟨z, _, rfl⟩ <;> first | assumption | exact wn _)
    | (rcases ha with rfl | rfl | rfl | rfl <;> first | assumption | exact wn _ | exact wf _ _)
    | (rcases ha with rfl | rfl | rfl <;> first | assumption | exact wn _)
    | (rcases ha with rfl | rfl <;> first | assumption | exact wn _)
theorem joinL_no {c d : UInt8} (hcd : c ≠ d) : ∀ P : List (List UInt8), (∀ a ∈ P, c ∉ a) → c ∉ joinL d P := by
  intro P
  induction P with
  | nil => intro _ m; cases m
  | cons x t ih =>
    intro h m
    by_cases ht : t = []
    · subst ht; exact h x (by simp) m
    · rw [join_cons d x ht] at m
      rcases List.mem_append.1 m with m | m
      · exact h x (by simp) m
      · rcases List.mem_cons.1 m with m | m
        · exact hcd m
        · exact ih (fun a ha => h a (by simp [ha])) m
theorem evT_no (e : Ev) : (10 : UInt8) ∉ evT e := joinL_no (by decide) _ (words_no (by decide) e)
theorem nT_ne (n : Int) : nT n ≠ [] := dec_ne _
theorem words_ne (e : Ev) : ∀ a ∈ evW e, a ≠ [] := by
  intro a ha
  unfold evW deedW at ha
  repeat' split at ha
  all_goals
    simp only [List.mem_cons, List.mem_map, List.not_mem_nil, or_false, false_and, and_false] at ha
  all_goals first
    | exact ha.elim
    | (rcases ha with rfl | rfl | ⟨z, _, rfl⟩ <;> first | exact nT_ne _ | decide)
    | (rcases ha with rfl | rfl | rfl | rfl <;> first | exact nT_ne _ | decide | (rw [frT_list]; simp))
    | (rcases ha with rfl | rfl | rfl <;> first | exact nT_ne _ | decide)
    | (rcases ha with rfl | rfl <;> first | exact nT_ne _ | decide)
theorem evT_nil (e : Ev) : evT e = [] ↔ evW e = [] := by
  constructor
  · intro h
    cases hw : evW e with
    | nil => rfl
    | cons a t =>
      exfalso
      have ha := words_ne e a (by rw [hw]; simp)
      unfold evT at h
      rw [hw] at h
      by_cases ht : t = []
      · subst ht; exact ha h
      · rw [join_cons 32 a ht] at h
        simp at h
  · intro h; unfold evT; rw [h]; rfl
theorem words_len (e : Ev) : (evW e).length ≤ 14 := by
  unfold evW deedW
  repeat' split
  all_goals first
    | simp; done
    | (simp only [List.length_cons, List.length_map]; rename_i h _ _; have := h.2; omega)
    | (simp only [List.length_cons, List.length_map, List.length_nil]; omega)
end Go.Proofs.Ytgmmdpdlekpmfaa
namespace Go.Proofs.Ytgmmdpdlekpmfaa
open Go.RowKit
set_option linter.unusedSimpArgs false
set_option linter.unusedVariables false
def ddC (A : Option Addr) (c : Nat) (x : Dd) : List Value := [.int .i64 x.k, .int .i64 x.o, .int .i64 x.t, .int .i64 x.n, .int .i64 x.d, .slice A x.zs.length c]
def deedB (hs : List Hd) (x : Dd) : Bool := if x.k = 0 then selB hs x.o x.t x.n x.d else if x.k = 1 then inhB hs x.o x.zs else if x.k = 2 then joinB hs x.o x.t else false
def deedL (hs : List Hd) (x : Dd) : Led := if x.k = 0 then selL hs x.o x.t x.n x.d else if x.k = 1 then inhL hs x.o x.zs else joinL' hs x.o x.t
theorem sel_vl {hs : List Hd} {fr tt pn pd : Int} (h : selB hs fr tt pn pd = true) : VL (selL hs fr tt pn pd) := by
  unfold selB at h
  simp only [Bool.and_eq_true] at h
  exact ((sell_iff _ _ _ _).1 h.2).2.2.2.2.2.2
theorem inh_vl {hs : List Hd} {owner : Int} {zs : List Int} (h : inhB hs owner zs = true) : vlR (rawL (inhL hs owner zs)) = true := by
  unfold inhB at h
  simp only [Bool.and_eq_true] at h
  have := h.2
  rw [← vlR_vl] at this
  exact this
theorem vl_raw {L : Led} (h : VL L) : vlR (rawL L) = true := by
  rw [vlR_vl]; exact (vl_iff L).2 h
theorem deed_vl {hs : List Hd} {x : Dd} (h : deedB hs x = true) : vlR (rawL (deedL hs x)) = true := by
  unfold deedB at h
  unfold deedL
  by_cases h0 : x.k = 0
  · rw [if_pos h0] at h ⊢; exact vl_raw (sel_vl h)
  · rw [if_neg h0] at h ⊢
    by_cases h1 : x.k = 1
    · rw [if_pos h1] at h ⊢; exact inh_vl h
    · rw [if_neg h1] at h ⊢
      by_cases h2 : x.k = 2
      · rw [if_pos h2] at h; exact vl_raw (sel_vl h)
      · rw [if_neg h2] at h; cases h
theorem deed_old {hs : List Hd} {x : Dd} (h : deedB hs x = true) : vlR hs = true := by
  have s : ∀ {fr tt pn pd : Int}, selB hs fr tt pn pd = true → vlR hs = true := fun h => by
    unfold selB at h
    simp only [Bool.and_eq_true] at h
    exact h.1.1
  unfold deedB at h
  by_cases h0 : x.k = 0
  · rw [if_pos h0] at h; exact s h
  · rw [if_neg h0] at h
    by_cases h1 : x.k = 1
    · rw [if_pos h1] at h
      cases hv : vlR hs with
      | true => rfl
      | false => rw [inh_no (.inl hv)] at h; cases h
    · rw [if_neg h1] at h
      by_cases h2 : x.k = 2
      · rw [if_pos h2] at h; exact s h
      · rw [if_neg h2] at h; cases h
theorem move_as {w : World} {b b' : Bool} {L L' : Led} {e : Ending} {w' : World} (h : MoveV w b L e w') (hb : b = b') (hL : b' = true → L = L') : MoveV w b' L' e w' := by
  subst hb
  obtain ⟨v, he, m1, m2, hB⟩ := h
  exact ⟨v, he, m1, fun c => by rw [← hL c]; exact m2 c, hB⟩
theorem move_no {w w' : World} {b : Bool} (L : Led) (hb : b = false) (hB : Below w.heap.size w w') : MoveV w b L (.returned (.tuple #[.slice none 0 0, .bool false])) w' := by
  subst hb
  exact ⟨_, rfl, fun _ => rfl, (fun c => by cases c), hB⟩
theorem move_up {w W w' : World} {v : Value} {b : Bool} {L : Led} (hB : Below w.heap.size w W) (m1 : b = false → v = .slice none 0 0) (m2 : b = true → OwnH w' W.heap.size v (rawL L)) (hb : Below W.heap.size W w') : MoveV w b L (.returned (.tuple #[v, .bool b])) w' :=
  ⟨v, rfl, m1, (fun c => own_le (m2 c) hB.size), bel_tr hB hb⟩
set_option maxRecDepth 100000 in
set_option maxHeartbeats 4000000 in
/-- impl.runDeed -/
theorem iRunDeed (a : Option Addr) (cap : Nat) (hs : List Hd) (A : Option Addr) (capz : Nat) (x : Dd) (w : World) (h : IsHs w a hs) (hn : hs.length ≤ 1048576) (hc : hs.length ≤ cap) (hz : IsInts w A x.zs) (hzn : x.zs.length ≤ 1048576) (hzc : x.zs.length ≤ capz) :
    Calls Try.prog 83 #[.slice a hs.length cap, .agg #[.int .i64 x.k, .int .i64 x.o, .int .i64 x.t, .int .i64 x.n, .int .i64 x.d, .slice A x.zs.length capz]] w (MoveV w (deedB hs x) (deedL hs x)) := by
  obtain ⟨k, o, t, n, d, zs⟩ := x
  dsimp only at hz hzn hzc ⊢
  have B0 : Below w.heap.size w (w.alloc (.cells #[.int .i64 k, .int .i64 o, .int .i64 t, .int .i64 n, .int .i64 d, .slice A zs.length capz] 113)) := by go_grown
  have K := Blk.new w 113 #[.int .i64 k, .int .i64 o, .int .i64 t, .int .i64 n, .int .i64 d, .slice A zs.length capz]
  have q0 := K.cell 0
  have q1 := K.cell 1
  have q2 := K.cell 2
  have q3 := K.cell 3
  have q4 := K.cell 4
  have q5 := K.cell 5
  dsimp at q0 q1 q2 q3 q4 q5
  have HI := Lib.hid (hs_below h B0)
  have HZ := Lib.hid (ints_below hz B0)
  have HB := Lib.hid B0
  clear h hz B0 K
  by_cases c0 : k = 0
  · subst c0
    have e1 : Hid (deedB hs ⟨0, o, t, n, d, zs⟩ = selB hs o t n d) := rfl
    have e2 : Hid (deedL hs ⟨0, o, t, n, d, zs⟩ = selL hs o t n d) := rfl
    go_enter Try.func83, Try.ntmps83
    go_wp2_with fail
    refine (iSell a cap hs o t n d _ HI.out hn hc).mono ?_
    rintro e w2 ⟨v, rfl, m1, m2, hb2⟩
    go_wp2_with fail
    go_returns
    exact move_as (move_up HB.out m1 m2 hb2) e1.out.symm (fun _ => e2.out.symm)
  have d0 : (k == 0) = false := by simpa using c0
  by_cases c1 : k = 1
  · subst c1
    have e1 : Hid (deedB hs ⟨1, o, t, n, d, zs⟩ = inhB hs o zs) := rfl
    have e2 : Hid (deedL hs ⟨1, o, t, n, d, zs⟩ = inhL hs o zs) := rfl
    clear c0
    go_enter Try.func83, Try.ntmps83
    go_wp2_with fail
    refine (iInherit a cap hs o A capz zs _ HI.out hn hc HZ.out hzn hzc).mono ?_
    rintro e w2 ⟨v, rfl, m1, m2, hb2⟩
    go_wp2_with fail
    go_returns
    exact move_as (move_up HB.out m1 m2 hb2) e1.out.symm (fun _ => e2.out.symm)
  have d1 : (k == 1) = false := by simpa using c1
  by_cases c2 : k = 2
  · subst c2
    have e1 : Hid (deedB hs ⟨2, o, t, n, d, zs⟩ = joinB hs o t) := rfl
    have e2 : Hid (deedL hs ⟨2, o, t, n, d, zs⟩ = joinL' hs o t) := rfl
    clear c0 c1
    go_enter Try.func83, Try.ntmps83
    go_wp2_with fail
    refine (iJoin a cap hs o t _ HI.out hn hc).mono ?_
    rintro e w2 ⟨v, rfl, m1, m2, hb2⟩
    go_wp2_with fail
    go_returns
    exact move_as (move_up HB.out m1 m2 hb2) e1.out.symm (fun _ => e2.out.symm)
  have d2 : (k == 2) = false := by simpa using c2
  have e1 : Hid (deedB hs ⟨k, o, t, n, d, zs⟩ = false) := by show _ = _; unfold deedB; dsimp only; rw [if_neg c0, if_neg c1, if_neg c2]
  clear c0 c1 c2
  go_enter Try.func83, Try.ntmps83
  go_wp2_with fail
  go_returns
  exact move_no _ e1.out HB.out
set_option maxRecDepth 100000 in
set_option maxHeartbeats 4000000 in
/-- spec.runDeed -/
theorem sRunDeed (a : Option Addr) (cap : Nat) (hs : List Hd) (A : Option Addr) (capz : Nat) (x : Dd) (w : World) (h : IsHs w a hs) (hn : hs.length ≤ 1048576) (hc : hs.length ≤ cap) (hz : IsInts w A x.zs) (hzn : x.zs.length ≤ 1048576) (hzc : x.zs.length ≤ capz) (hv : vlR hs = true) :
    Calls Try.prog 79 #[.slice a hs.length cap, .agg #[.int .i64 x.k, .int .i64 x.o, .int .i64 x.t, .int .i64 x.n, .int .i64 x.d, .slice A x.zs.length capz]] w (MoveV w (deedB hs x) (deedL hs x)) := by
  obtain ⟨k, o, t, n, d, zs⟩ := x
  dsimp only at hz hzn hzc ⊢
  have B0 : Below w.heap.size w (w.alloc (.cells #[.int .i64 k, .int .i64 o, .int .i64 t, .int .i64 n, .int .i64 d, .slice A zs.length capz] 113)) := by go_grown
  have K := Blk.new w 113 #[.int .i64 k, .int .i64 o, .int .i64 t, .int .i64 n, .int .i64 d, .slice A zs.length capz]
  have q0 := K.cell 0
  have q1 := K.cell 1
  have q2 := K.cell 2
  have q3 := K.cell 3
  have q4 := K.cell 4
  have q5 := K.cell 5
  dsimp at q0 q1 q2 q3 q4 q5
  have HI := Lib.hid (hs_below h B0)
  have HZ := Lib.hid (ints_below hz B0)
  have HB := Lib.hid B0
  have hV := (vlR_is hv).2
  have HVL := Lib.hid hV
  have HEq := Lib.hid (led_eq hv)
  have hle := led_le hv
  have HV := Lib.hid hv
  by_cases c0 : k = 0
  · subst c0
    have e2 : Hid (deedL hs ⟨0, o, t, n, d, zs⟩ = soldL (ledOf hs) o t (Rat.divInt n d)) := rfl
    cases hf : Wsh.vfB n d with
    | false =>
      have e1 : Hid (deedB hs ⟨0, o, t, n, d, zs⟩ = false) := by show selB hs o t n d = false; unfold selB; rw [hv, hf]; rfl
      have HF := Lib.hid hf
      clear h hz B0 hv hV hf
      go_enter Try.func79, Try.ntmps79
      go_wp2_with fail
      refine (vf_boolN HF.out _).mono ?_
      rintro e w2 ⟨rfl, hb⟩
      go_wp2_with fail
      go_returns
      exact move_no _ e1.out (bel_tr HB.out hb)
    | true =>
      have e1 : Hid (deedB hs ⟨0, o, t, n, d, zs⟩ = sellB (ledOf hs) o t (Rat.divInt n d)) := by show selB hs o t n d = _; unfold selB; rw [hv, hf]; rfl
      have HF := Lib.hid hf
      obtain ⟨f1, f2, f3⟩ := vf_q hf
      have HF1 := Lib.hid f1
      have HF2 := Lib.hid f2
      have HF3 := Lib.hid f3
      clear h hz B0 hv hV hf f1 f2 f3
      go_enter Try.func79, Try.ntmps79
      go_wp2_with fail
      refine (vf_boolY HF.out _).mono ?_
      rintro e w2 ⟨rfl, hb⟩
      have K2 := K.next hb
      clear q0 q1 q2 q3 q4 q5
      have q0 := K2.cell 0
      have q1 := K2.cell 1
      have q2 := K2.cell 2
      have q3 := K2.cell 3
      have q4 := K2.cell 4
      have q5 := K2.cell 5
      dsimp at q0 q1 q2 q3 q4 q5
      have HB2 := Lib.hid (bel_tr HB.out hb)
      have HI2 := Lib.hid (hs_below HI.out hb)
      clear hb
      go_wp2_with fail
      refine (ssell a cap (ledOf hs) hs o t n d (Rat.divInt n d) _ HI2.out HEq.out (by omega) HVL.out.fr HF3.out HF1.out.symm HF2.out.symm).mono ?_
      rintro e w4 ⟨v, rfl, m1, m2, hb4⟩
      go_wp2_with fail
      go_returns
      exact move_as (move_up HB2.out m1 m2 hb4) e1.out.symm (fun _ => e2.out.symm)
  have d0 : (k == 0) = false := by simpa using c0
  by_cases c1 : k = 1
  · subst c1
    have e1 : Hid (deedB hs ⟨1, o, t, n, d, zs⟩ = inhB hs o zs) := rfl
    have e2 : Hid (deedL hs ⟨1, o, t, n, d, zs⟩ = inhL hs o zs) := rfl
    clear h hz B0 hv hV c0
    go_enter Try.func79, Try.ntmps79
    go_wp2_with fail
    refine (sinherit a cap hs o A capz zs _ HI.out HV.out HZ.out hzn hzc).mono ?_
    rintro e w2 ⟨v, rfl, m1, m2, hb2⟩
    go_wp2_with fail
    go_returns
    exact move_as (move_up HB.out m1 m2 hb2) e1.out.symm (fun _ => e2.out.symm)
  have d1 : (k == 1) = false := by simpa using c1
  by_cases c2 : k = 2
  · subst c2
    have hsh : shV hs o = ((shareL (ledOf hs) o).num, ((shareL (ledOf hs) o).den : Int)) := by
      unfold shV
      rw [hv]
      conv => lhs; rw [led_eq hv]
      exact shR_raw _ _
    have hfr := share_frA hV.fr o
    have hqe : Rat.divInt (shareL (ledOf hs) o).num ((shareL (ledOf hs) o).den : Int) = shareL (ledOf hs) o := q_mk _
    have e1 : Hid (deedB hs ⟨2, o, t, n, d, zs⟩ = sellB (ledOf hs) o t (shareL (ledOf hs) o)) := by
      show joinB hs o t = _
      unfold joinB selB
      rw [hsh, hv, q_vf hfr, hqe]; rfl
    have e2 : Hid (deedL hs ⟨2, o, t, n, d, zs⟩ = soldL (ledOf hs) o t (shareL (ledOf hs) o)) := by
      show joinL' hs o t = _
      unfold joinL' selL
      rw [hsh, hqe]
    have HFr := Lib.hid hfr
    clear hsh hfr hqe
    have SL := fun (W : World) (hW : IsHs W a hs) => sshareL a cap (ledOf hs) hs o W hW HEq.out hn
    obtain ⟨pn, hpn⟩ : ∃ pn, pn = (shareL (ledOf hs) o).num := ⟨_, rfl⟩
    obtain ⟨pd, hpd⟩ : ∃ pd, pd = ((shareL (ledOf hs) o).den : Int) := ⟨_, rfl⟩
    rw [← hpn, ← hpd] at SL
    have HPn := Lib.hid hpn
    have HPd := Lib.hid hpd
    have HSL := Lib.hid SL
    clear hpn hpd SL
    have hfd : ∀ w : World, (Instr.field 53 (.agg #[.int .i64 pn, .int .i64 pd]) 0).run Try.prog w = .ok (.int .i64 pn) w := fun _ => by kernel_rfl
    by_cases hz0 : pn = 0
    · have HN : Hid (deedB hs ⟨2, o, t, n, d, zs⟩ = false) := by show _ = _; rw [e1.out]; unfold sellB; rw [(num_zero _).1 (HPn.out.symm.trans hz0)]; simp
      have e0 : (pn == 0) = true := by simpa using hz0
      clear h hz B0 hv hV c0 c1 hz0
      go_enter Try.func79, Try.ntmps79
      go_wp2_with fail
      refine (HSL.out _ HI.out).mono ?_
      rintro e w2 ⟨rfl, hb2⟩
      go_wp2_with fail
      go_returns
      exact move_no _ HN.out (bel_tr HB.out hb2)
    · have e0 : (pn == 0) = false := by simpa using hz0
      clear h hz B0 hv hV c0 c1 hz0
      go_enter Try.func79, Try.ntmps79
      go_wp2_with fail
      refine (HSL.out _ HI.out).mono ?_
      rintro e w2 ⟨rfl, hb2⟩
      have K2 := K.next hb2
      clear q0 q1 q2 q3 q4 q5
      have q0 := K2.cell 0
      have q1 := K2.cell 1
      have q2 := K2.cell 2
      have q3 := K2.cell 3
      have q4 := K2.cell 4
      have q5 := K2.cell 5
      dsimp at q0 q1 q2 q3 q4 q5
      have HB2 := Lib.hid (bel_tr HB.out hb2)
      have HI2 := Lib.hid (hs_below HI.out hb2)
      clear hb2
      go_wp2_with fail
      have HMK1 := Lib.hid (fun (W : World) (hW : Below w2.heap.size w2 W) => (⟨⟨(hW.cell (p := ⟨w.heap.size, 1, none⟩) (K2.lt)).trans q1, (hW.cell (p := ⟨w.heap.size, 2, none⟩) (K2.lt)).trans q2⟩, hW⟩ : (W.cell? ⟨w.heap.size, 1, none⟩ = some (.int .i64 o) ∧ W.cell? ⟨w.heap.size, 2, none⟩ = some (.int .i64 t)) ∧ Below w2.heap.size w2 W))
      refine wp_region_held_drew (S := (fun w' => (w'.cell? ⟨w.heap.size, 1, none⟩ = some (.int .i64 o) ∧ w'.cell? ⟨w.heap.size, 2, none⟩ = some (.int .i64 t)) ∧ Below w2.heap.size w2 w')) (by kernel_rfl) ?_ (fun hHeld => ?_)
      · exact ⟨⟨q1, q2⟩, (Below.refl _ _).drew⟩
      refine wpAnyH_take (i := 0) (oi := ?ooa2_) (v := ?vva2_) ?hia2_ (by kernel_rfl) ?h3a2_ ?h4a2_ ?h5a2_ ?h6a2_ (by assumption) ?h8a2_
      case hia2_ => (simp only [List.getElem?_toArray, List.getElem?_cons_succ, List.getElem?_cons_zero]; rfl)
      case h3a2_ => kernel_rfl
      case h4a2_ => kernel_rfl
      case h6a2_ => (refine Or.inl ⟨by rfl, ?_⟩; intro w hSw; (try dsimp only at hSw); (go_simp <;> with_reducible rfl))
      case h5a2_ => exact fun _ _ _ h => h
      try simp only [Act.put, List.setIfInBounds_toArray, List.set_cons_zero, List.set_cons_succ]
      refine wpAnyH_take (i := 1) (oi := ?ooa3_) (v := ?vva3_) ?hia3_ (by kernel_rfl) ?h3a3_ ?h4a3_ ?h5a3_ ?h6a3_ (by assumption) ?h8a3_
      case hia3_ => (simp only [List.getElem?_toArray, List.getElem?_cons_succ, List.getElem?_cons_zero]; rfl)
      case h3a3_ => kernel_rfl
      case h4a3_ => kernel_rfl
      case h6a3_ => (refine Or.inl ⟨by rfl, ?_⟩; intro w hSw; (try dsimp only at hSw); (go_simp <;> with_reducible rfl))
      case h5a3_ => exact fun _ _ _ h => h
      try simp only [Act.put, List.setIfInBounds_toArray, List.set_cons_zero, List.set_cons_succ]
      refine wpAnyH_take (i := 2) (oi := ?ooa4_) (v := ?vva4_) ?hia4_ (by kernel_rfl) ?h3a4_ ?h4a4_ ?h5a4_ ?h6a4_ (by assumption) ?h8a4_
      case hia4_ => (simp only [List.getElem?_toArray, List.getElem?_cons_succ, List.getElem?_cons_zero]; rfl)
      case h3a4_ => kernel_rfl
      case h4a4_ => kernel_rfl
      case h6a4_ => (refine Or.inl ⟨by rfl, ?_⟩; intro w hSw; (try dsimp only at hSw); (go_simp <;> with_reducible rfl))
      case h5a4_ => exact fun _ _ _ h => h
      try simp only [Act.put, List.setIfInBounds_toArray, List.set_cons_zero, List.set_cons_succ]
      refine wpAnyH_take (i := 3) (oi := ?ooa5_) (v := ?vva5_) ?hia5_ (by kernel_rfl) ?h3a5_ ?h4a5_ ?h5a5_ ?h6a5_ (by assumption) ?h8a5_
      case hia5_ => (simp only [List.getElem?_toArray, List.getElem?_cons_succ, List.getElem?_cons_zero]; rfl)
      case h3a5_ => kernel_rfl
      case h4a5_ => kernel_rfl
      case h6a5_ => (refine Or.inl ⟨by rfl, ?_⟩; intro w hSw; (try dsimp only at hSw); (go_simp <;> with_reducible rfl))
      case h5a5_ => exact fun _ _ _ h => h
      try simp only [Act.put, List.setIfInBounds_toArray, List.set_cons_zero, List.set_cons_succ]
      refine wpAnyH_take (i := 4) (oi := ?ooa6_) (v := ?vva6_) ?hia6_ (by kernel_rfl) ?h3a6_ ?h4a6_ ?h5a6_ ?h6a6_ (by assumption) ?h8a6_
      case hia6_ => (simp only [List.getElem?_toArray, List.getElem?_cons_succ, List.getElem?_cons_zero]; rfl)
      case h3a6_ => kernel_rfl
      case h4a6_ => kernel_rfl
      case h6a6_ => (refine Or.inl ⟨by rfl, ?_⟩; intro w hSw; (try dsimp only at hSw); (go_simp <;> with_reducible rfl))
      case h5a6_ => exact fun _ _ _ h => h
      try simp only [Act.put, List.setIfInBounds_toArray, List.set_cons_zero, List.set_cons_succ]
      refine wpAnyH_take (i := 5) (oi := ?ooa7_) (v := ?vva7_) ?hia7_ (by kernel_rfl) ?h3a7_ ?h4a7_ ?h5a7_ ?h6a7_ (by assumption) ?h8a7_
      case hia7_ => (simp only [List.getElem?_toArray, List.getElem?_cons_succ, List.getElem?_cons_zero]; rfl)
      case h3a7_ => kernel_rfl
      case h4a7_ => kernel_rfl
      case h6a7_ => (refine Or.inl ⟨by rfl, ?_⟩; intro w hSw; (try dsimp only at hSw); (go_simp <;> with_reducible rfl))
      case h5a7_ => exact fun _ _ _ h => h
      try simp only [Act.put, List.setIfInBounds_toArray, List.set_cons_zero, List.set_cons_succ]
      refine wpAnyH_take (i := 6) (oi := ?ooa8_) (v := ?vva8_) ?hia8_ (by kernel_rfl) ?h3a8_ ?h4a8_ ?h5a8_ ?h6a8_ (by assumption) ?h8a8_
      case hia8_ => (simp only [List.getElem?_toArray, List.getElem?_cons_succ, List.getElem?_cons_zero]; rfl)
      case h3a8_ => kernel_rfl
      case h4a8_ => kernel_rfl
      case h6a8_ => (refine Or.inl ⟨by rfl, ?_⟩; intro w hSw; (try dsimp only at hSw); (go_simp <;> with_reducible rfl))
      case h5a8_ => exact fun _ _ _ h => h
      try simp only [Act.put, List.setIfInBounds_toArray, List.set_cons_zero, List.set_cons_succ]
      refine wpAnyH_take (i := 7) (oi := ?ooa9_) (v := ?vva9_) ?hia9_ (by kernel_rfl) ?h3a9_ ?h4a9_ ?h5a9_ ?h6a9_ (by assumption) ?h8a9_
      case hia9_ => (simp only [List.getElem?_toArray, List.getElem?_cons_succ, List.getElem?_cons_zero]; rfl)
      case h3a9_ => kernel_rfl
      case h4a9_ => kernel_rfl
      case h6a9_ => (refine Or.inl ⟨by rfl, ?_⟩; intro w hSw; (try dsimp only at hSw); (go_simp <;> with_reducible rfl))
      case h5a9_ => exact fun _ _ _ h => h
      try simp only [Act.put, List.setIfInBounds_toArray, List.set_cons_zero, List.set_cons_succ]
      refine wpAnyH_ready (rs := [8]) (by kernel_rfl) (by simp) (AllReadyH.cons (o := ?ooa10_q0) ?hia10_q0 (fun K hK => ?hka10_q0) AllReadyH.nil)
      case hia10_q0 => (simp only [List.getElem?_toArray, List.getElem?_cons_succ, List.getElem?_cons_zero]; rfl)
      case hka10_q0 =>
        (rw [if_pos (by rfl)]; go_simp; refine (HSL.out _ (hs_below HI2.out hHeld.2)).mono ?_; rintro e w3_ ⟨rfl, hb3⟩; go_wp2_with fail; refine hK.out _ _ (HMK1.out _ (bel_tr hHeld.2 hb3)) (fun hHeld => ?_); clear hK K)
        try simp only [Act.put, List.setIfInBounds_toArray, List.set_cons_zero, List.set_cons_succ]
        refine wpAnyH_ready (rs := [9]) (by kernel_rfl) (by simp) (AllReadyH.cons (o := ?ooa11_q0) ?hia11_q0 (fun K hK => ?hka11_q0) AllReadyH.nil)
        case hia11_q0 => (simp only [List.getElem?_toArray, List.getElem?_cons_succ, List.getElem?_cons_zero]; rfl)
        case hka11_q0 =>
          (rw [if_pos (by rfl)]; go_simp; refine (ssell a cap (ledOf hs) hs o t _ _ (shareL (ledOf hs) o) _ (hs_below HI2.out hHeld.2) HEq.out (by omega) HVL.out.fr HFr.out HPn.out HPd.out).mono ?_; rintro e w4_ ⟨v, rfl, m1, m2, hb4⟩; have HM1 := Lib.hid m1; have HM2 := Lib.hid m2; have HB3 := Lib.hid (bel_tr HB2.out hHeld.2); have HB4 := Lib.hid hb4; clear m1 m2; go_wp2_with fail; refine hK.out _ _ (HMK1.out _ (bel_tr hHeld.2 hb4)) (fun hHeld => ?_); clear hK K)
          try simp only [Act.put, List.setIfInBounds_toArray, List.set_cons_zero, List.set_cons_succ]
          refine wpAnyH_take (i := 10) (oi := ?ooa12_) (v := ?vva12_) ?hia12_ (by kernel_rfl) ?h3a12_ ?h4a12_ ?h5a12_ ?h6a12_ (by assumption) ?h8a12_
          case hia12_ => (simp only [List.getElem?_toArray, List.getElem?_cons_succ, List.getElem?_cons_zero]; rfl)
          case h3a12_ => kernel_rfl
          case h4a12_ => kernel_rfl
          case h6a12_ => (refine Or.inl ⟨by rfl, ?_⟩; intro w hSw; (try dsimp only at hSw); (go_simp <;> with_reducible rfl))
          case h5a12_ => exact fun _ _ _ h => h
          try simp only [Act.put, List.setIfInBounds_toArray, List.set_cons_zero, List.set_cons_succ]
          refine wpAnyH_take (i := 11) (oi := ?ooa13_) (v := ?vva13_) ?hia13_ (by kernel_rfl) ?h3a13_ ?h4a13_ ?h5a13_ ?h6a13_ (by assumption) ?h8a13_
          case hia13_ => (simp only [List.getElem?_toArray, List.getElem?_cons_succ, List.getElem?_cons_zero]; rfl)
          case h3a13_ => kernel_rfl
          case h4a13_ => kernel_rfl
          case h6a13_ => (refine Or.inl ⟨by rfl, ?_⟩; intro w hSw; (try dsimp only at hSw); (go_simp <;> with_reducible rfl))
          case h5a13_ => exact fun _ _ _ h => h
          try simp only [Act.put, List.setIfInBounds_toArray, List.set_cons_zero, List.set_cons_succ]
          refine wpAnyH_take (i := 12) (oi := ?ooa14_) (v := ?vva14_) ?hia14_ (by kernel_rfl) ?h3a14_ ?h4a14_ ?h5a14_ ?h6a14_ (by assumption) ?h8a14_
          case hia14_ => (simp only [List.getElem?_toArray, List.getElem?_cons_succ, List.getElem?_cons_zero]; rfl)
          case h3a14_ => kernel_rfl
          case h4a14_ => kernel_rfl
          case h6a14_ => (refine Or.inl ⟨by rfl, ?_⟩; intro w hSw; (try dsimp only at hSw); (go_simp <;> with_reducible rfl))
          case h5a14_ => exact fun _ _ _ h => h
          try simp only [Act.put, List.setIfInBounds_toArray, List.set_cons_zero, List.set_cons_succ]
          refine wpAnyH_take (i := 13) (oi := ?ooa15_) (v := ?vva15_) ?hia15_ (by kernel_rfl) ?h3a15_ ?h4a15_ ?h5a15_ ?h6a15_ (by assumption) ?h8a15_
          case hia15_ => (simp only [List.getElem?_toArray, List.getElem?_cons_succ, List.getElem?_cons_zero]; rfl)
          case h3a15_ => kernel_rfl
          case h4a15_ => kernel_rfl
          case h6a15_ => (refine Or.inl ⟨by rfl, ?_⟩; intro w hSw; (try dsimp only at hSw); (go_simp <;> with_reducible rfl))
          case h5a15_ => exact fun _ _ _ h => h
          try simp only [Act.put, List.setIfInBounds_toArray, List.set_cons_zero, List.set_cons_succ]
          refine wpAnyH_done (by kernel_rfl) ?_ _
          clear HMK1
          clear hHeld
          go_wp2_with fail
          go_returns
          exact move_as (move_up HB3.out HM1.out HM2.out HB4.out) e1.out.symm (fun _ => e2.out.symm)
  have d2 : (k == 2) = false := by simpa using c2
  have e1 : Hid (deedB hs ⟨k, o, t, n, d, zs⟩ = false) := by show _ = _; unfold deedB; dsimp only; rw [if_neg c0, if_neg c1, if_neg c2]
  clear h hz B0 hv hV c0 c1 c2
  go_enter Try.func79, Try.ntmps79
  go_wp2_with fail
  go_returns
  exact move_no _ e1.out HB.out
end Go.Proofs.Ytgmmdpdlekpmfaa
namespace Go.Proofs.Ytgmmdpdlekpmfaa
open Go.RowKit
set_option linter.unusedSimpArgs false
set_option linter.unusedVariables false

/-- a deed in memory -/
def IsDd (w : World) (g p : Nat) (x : Dd) : Prop := ∃ (A : Option Addr) (cz : Nat), w.cell? ⟨g, p, none⟩ = some (.int .i64 x.k) ∧ w.cell? ⟨g, p + 1, none⟩ = some (.int .i64 x.o) ∧ w.cell? ⟨g, p + 2, none⟩ = some (.int .i64 x.t) ∧ w.cell? ⟨g, p + 3, none⟩ = some (.int .i64 x.n) ∧ w.cell? ⟨g, p + 4, none⟩ = some (.int .i64 x.d) ∧ w.cell? ⟨g, p + 5, none⟩ = some (.slice A x.zs.length cz) ∧ IsInts w A x.zs ∧ x.zs.length ≤ 1048576 ∧ x.zs.length ≤ cz
theorem dd_below {w w' : World} {g p : Nat} {x : Dd} (h : IsDd w g p x) (hB : Below w.heap.size w w') : IsDd w' g p x := by
  obtain ⟨A, cz, c0, c1, c2, c3, c4, c5, hi, hn, hc⟩ := h
  have kp : ∀ q v, w.cell? ⟨g, q, none⟩ = some v → w'.cell? ⟨g, q, none⟩ = some v := fun q v c => (hB.cell (p := ⟨g, q, none⟩) (World.block_lt_of_cell? w _ c)).trans c
  exact ⟨A, cz, kp _ _ c0, kp _ _ c1, kp _ _ c2, kp _ _ c3, kp _ _ c4, kp _ _ c5, ints_below hi hB, hn, hc⟩
/-- deeds, read through a slice at address a -/
def IsDds (w : World) (a : Option Addr) (ds : List Dd) : Prop := ds = [] ∨ ∃ g o, a = some ⟨g, o, none⟩ ∧ ∀ i, i < ds.length → IsDd w g (o + i * 6) (ds.getD i dd0)
theorem dds_below {w w' : World} {a : Option Addr} {ds : List Dd} (h : IsDds w a ds) (hB : Below w.heap.size w w') : IsDds w' a ds := by
  rcases h with h | ⟨g, o, ha, hc⟩
  · exact .inl h
  · exact .inr ⟨g, o, ha, fun i hi => dd_below (hc i hi) hB⟩
def rdO : List Hd → List Dd → Option (List Hd)
  | hs, [] => some hs
  | hs, x :: t => if deedB hs x then rdO (rawL (deedL hs x)) t else none
theorem rdO_cons (hs : List Hd) (x : Dd) (t : List Dd) : rdO hs (x :: t) = if deedB hs x then rdO (rawL (deedL hs x)) t else none := by rw [rdO]
def rdB (hs : List Hd) (ds : List Dd) : Bool := vlR hs && (decide (ds.length ≤ 20) && (rdO hs ds).isSome)
def rdL (hs : List Hd) (ds : List Dd) : Led := ledOf ((rdO hs ds).getD [])
theorem rdd_drop {ds : List Dd} {k : Nat} (h : k < ds.length) : ds.drop k = ds.getD k dd0 :: ds.drop (k + 1) := by
  rw [List.drop_eq_getElem_cons h, List.getD_eq_getElem?_getD, List.getElem?_eq_getElem h]; rfl
theorem rdd_stop {hs cur : List Hd} {ds : List Dd} {k : Nat} (hk : k < ds.length) (h : rdO cur (ds.drop k) = rdO hs ds) (hb : deedB cur (ds.getD k dd0) = false) : rdB hs ds = false := by
  rw [rdd_drop hk, rdO_cons, hb] at h
  unfold rdB
  rw [← h]; simp
theorem rdd_next {hs cur : List Hd} {ds : List Dd} {k : Nat} (hk : k < ds.length) (h : rdO cur (ds.drop k) = rdO hs ds) (hb : deedB cur (ds.getD k dd0) = true) : rdO (rawL (deedL cur (ds.getD k dd0))) (ds.drop (k + 1)) = rdO hs ds := by
  rw [rdd_drop hk, rdO_cons, hb, if_pos rfl] at h
  exact h
theorem rdd_end {hs cur : List Hd} {ds : List Dd} {k : Nat} (hk : ds.length ≤ k) (h : rdO cur (ds.drop k) = rdO hs ds) (hv : vlR hs = true) (hl : ds.length ≤ 20) (hc : vlR cur = true) : rdB hs ds = true ∧ rawL (rdL hs ds) = cur := by
  rw [List.drop_eq_nil_of_le hk] at h
  have h : rdO hs ds = some cur := h.symm
  refine ⟨by unfold rdB; rw [h, hv, decide_eq_true hl]; rfl, ?_⟩
  unfold rdL
  rw [h]
  exact (vlR_is hc).1
theorem rdd_no {hs : List Hd} {ds : List Dd} (h : vlR hs = false ∨ 20 < ds.length) : rdB hs ds = false := by
  unfold rdB
  rcases h with h | h
  · rw [h]; rfl
  · rw [decide_eq_false (by omega)]; simp
theorem rdd_valid {hs : List Hd} {ds : List Dd} (h : rdB hs ds = true) : vlR (rawL (rdL hs ds)) = true := by
  have key : ∀ (ds : List Dd) (hs cur : List Hd), vlR hs = true → rdO hs ds = some cur → vlR cur = true := by
    intro ds
    induction ds with
    | nil => intro hs cur hv e; injection e with e; rw [← e]; exact hv
    | cons x t ih =>
      intro hs cur hv e
      rw [rdO_cons] at e
      cases hb : deedB hs x with
      | false => rw [hb] at e; cases e
      | true => rw [hb, if_pos rfl] at e; exact ih _ _ (deed_vl hb) e
  unfold rdB at h
  simp only [Bool.and_eq_true, decide_eq_true_eq] at h
  obtain ⟨cur, hc⟩ := Option.isSome_iff_exists.1 h.2.2
  have hcv := key ds hs cur h.1 hc
  unfold rdL
  rw [hc]
  show vlR (rawL (ledOf cur)) = true
  rw [(vlR_is hcv).1]; exact hcv
set_option maxRecDepth 100000 in
set_option maxHeartbeats 6000000 in
/-- impl.RunDeeds -/
theorem iRunDeeds (a : Option Addr) (cap : Nat) (hs : List Hd) (A0 : Option Addr) (capd : Nat) (ds : List Dd) (w : World) (h : IsHs w a hs) (hn : hs.length ≤ 1048576) (hc : hs.length ≤ cap) (hd : IsDds w A0 ds) (hdn : ds.length ≤ 1048576) :
    Calls Try.prog 33 #[.slice a hs.length cap, .slice A0 ds.length capd] w (MoveV w (rdB hs ds) (rdL hs ds)) := by
  obtain ⟨i0, hi0, hz0, hz1, hz2⟩ := info_parts infoH
  have CV := Lib.hid (iVL a cap hs w h hn)
  have HI := Lib.hid h
  have HD0 := Lib.hid hd
  clear h hd
  cases hv : vlR hs with
  | false =>
    have HN := Lib.hid (rdd_no (ds := ds) (.inl hv))
    rw [hv] at CV
    clear hv
    go_enter Try.func33, Try.ntmps33
    go_wp2_with fail
    refine CV.out.mono ?_
    rintro e u ⟨rfl, C⟩
    go_wp2_with fail
    go_returns
    exact move_no _ HN.out C
  | true =>
  rw [hv] at CV
  have HV := Lib.hid hv
  clear hv
  by_cases big : 20 < ds.length
  · have HN := Lib.hid (rdd_no (hs := hs) (.inr big))
    have e1 : decide ((20 : Int) < (ds.length : Int)) = true := decide_eq_true (by omega)
    have e2 : decide (20 < ds.length) = true := decide_eq_true big
    clear big
    go_enter Try.func33, Try.ntmps33
    go_wp2_with fail
    refine CV.out.mono ?_
    rintro e u ⟨rfl, C⟩
    go_wp2_with fail
    go_returns
    exact move_no _ HN.out C
  have e1 : decide ((20 : Int) < (ds.length : Int)) = false := decide_eq_false (by omega)
  have e2 : decide (20 < ds.length) = false := decide_eq_false big
  have HB : Hid (ds.length ≤ 20) := by show _ ≤ _; omega
  clear big
  go_enter Try.func33, Try.ntmps33
  go_wp2_with fail
  refine CV.out.mono ?_
  rintro e u1 ⟨rfl, B1⟩
  go_wp2_with fail
  refine (icopy a cap hs _ (hs_below HI.out B1) hn).mono ?_
  rintro e u2 ⟨v, rfl, O, C⟩
  obtain ⟨b2, c2, rfl, I2, hc2⟩ := own_hs2 O
  have O2 := Lib.hid (own_le O B1.size)
  have B2 := bel_tr B1 C
  clear O C B1
  go_wp2_with fail
  go_loopw [6, 23] (fun ch i wr => ∃ (k : Nat) (cur : List Hd) (b : Option Addr) (c : Nat), k ≤ ds.length ∧ i = .int .i64 k ∧ Value.slice b cur.length c = ch ∧ Hid (OwnH wr w.heap.size (.slice b cur.length c) cur) ∧ Hid (vlR cur = true) ∧ Hid (rdO cur (ds.drop k) = rdO hs ds) ∧ Below w.heap.size w wr) (fun _ i _ => ds.length - (intOf i).toNat)
  case atStart => exact ⟨0, hs, b2, c2, Nat.zero_le _, rfl, rfl, O2, HV, rfl, B2⟩
  case round =>
    clear B2 I2
    obtain ⟨k, cur, b, c, hk, rfl, rfl, HO, HC, HR, hB⟩ := hrel
    by_cases hlt : k < ds.length
    · rcases HD0.out with h0 | ⟨g, o, rfl, hg⟩
      · rw [h0] at hlt; exact absurd hlt (Nat.not_lt_zero _)
      obtain ⟨A, cz, c0, c1, c2, c3, c4, c5, hz, hzn, hzc⟩ := dd_below (hg k hlt) hB
      have HST := Lib.hid (rdd_stop hlt HR.out)
      have HNX := Lib.hid (rdd_next hlt HR.out)
      generalize ds.getD k dd0 = x at c0 c1 c2 c3 c4 c5 hz hzn hzc HST HNX
      obtain ⟨_, _, he, hI, hcc⟩ := own_hs2 HO.out
      injection he with he1 he2 he3
      subst he1 he3
      have hcl := led_le HC.out
      have k0 : (0 : Int) ≤ (k : Int) := by omega
      have k1 : (k : Int) < (ds.length : Int) := by omega
      have E := (Below.refl _ wr).alloc (Nat.le_refl _) (.cells #[.int .i64 x.k, .int .i64 x.o, .int .i64 x.t, .int .i64 x.n, .int .i64 x.d, .slice A x.zs.length cz] 113)
      have CR := Lib.hid (iRunDeed b c cur A cz x _ (hs_below hI E) (by omega) hcc (ints_below hz E) hzn hzc)
      have BE := Lib.hid (bel_tr hB E)
      clear hg hI hz E hB
      obtain ⟨d, hdb⟩ : ∃ d, deedB cur x = d := ⟨_, rfl⟩
      rw [hdb] at CR HST HNX
      cases d with
      | false =>
        go_wp2_with fail
        refine CR.out.mono ?_
        rintro e u ⟨v, rfl, m1, m2, C⟩
        obtain rfl := m1 rfl
        go_wp2_with fail
        go_returns
        exact move_no _ (HST.out (by first | trivial | rfl)) (bel_tr BE.out C)
      | true =>
        go_wp2_with fail
        refine CR.out.mono ?_
        rintro e u ⟨v, rfl, m1, m2, C⟩
        have O3 := m2 rfl
        obtain ⟨b3, c3, rfl, I3, hc3⟩ := own_hs2 O3
        have HO3 := Lib.hid (own_le O3 BE.out.size)
        have HB3 := Lib.hid (bel_tr BE.out C)
        have HV3 := Lib.hid (deed_vl hdb)
        have HR3 := Lib.hid (HNX.out (by first | trivial | rfl))
        clear m1 m2 O3 I3 C
        go_wp2_with fail
        go_roundw
        case rel => exact ⟨k + 1, _, b3, c3, by omega, by go_num, rfl, HO3, HV3, HR3, HB3.out⟩
        case measure => simp [intOf]; omega
    · obtain ⟨r1, r2⟩ := rdd_end (by omega) HR.out HV.out HB.out HC.out
      have HR1 := Lib.hid r1
      have HR2 := Lib.hid r2
      clear r1 r2
      go_wp2_with fail
      go_returns
      exact ⟨_, by rw [HR1.out]; rfl, (fun c => by rw [HR1.out] at c; cases c), (fun _ => by rw [HR2.out]; exact HO.out), hB⟩
set_option maxRecDepth 100000 in
set_option maxHeartbeats 6000000 in
/-- spec.RunDeeds -/
theorem sRunDeeds (a : Option Addr) (cap : Nat) (hs : List Hd) (A0 : Option Addr) (capd : Nat) (ds : List Dd) (w : World) (h : IsHs w a hs) (hn : hs.length ≤ 1048576) (hc : hs.length ≤ cap) (hd : IsDds w A0 ds) (hdn : ds.length ≤ 1048576) :
    Calls Try.prog 30 #[.slice a hs.length cap, .slice A0 ds.length capd] w (MoveV w (rdB hs ds) (rdL hs ds)) := by
  obtain ⟨i0, hi0, hz0, hz1, hz2⟩ := info_parts infoH
  have CV := Lib.hid (svl a cap hs w h hn)
  have HI := Lib.hid h
  have HD0 := Lib.hid hd
  clear h hd
  cases hv : vlR hs with
  | false =>
    have HN := Lib.hid (rdd_no (ds := ds) (.inl hv))
    rw [hv] at CV
    clear hv
    go_enter Try.func30, Try.ntmps30
    go_wp2_with fail
    refine CV.out.mono ?_
    rintro e u ⟨rfl, C⟩
    go_wp2_with fail
    go_returns
    exact move_no _ HN.out C
  | true =>
  rw [hv] at CV
  have HV := Lib.hid hv
  clear hv
  by_cases big : 20 < ds.length
  · have HN := Lib.hid (rdd_no (hs := hs) (.inr big))
    have e1 : decide ((20 : Int) < (ds.length : Int)) = true := decide_eq_true (by omega)
    have e2 : decide (20 < ds.length) = true := decide_eq_true big
    clear big
    go_enter Try.func30, Try.ntmps30
    go_wp2_with fail
    refine CV.out.mono ?_
    rintro e u ⟨rfl, C⟩
    go_wp2_with fail
    go_returns
    exact move_no _ HN.out C
  have e1 : decide ((20 : Int) < (ds.length : Int)) = false := decide_eq_false (by omega)
  have e2 : decide (20 < ds.length) = false := decide_eq_false big
  have HB : Hid (ds.length ≤ 20) := by show _ ≤ _; omega
  clear big
  go_enter Try.func30, Try.ntmps30
  go_wp2_with fail
  refine CV.out.mono ?_
  rintro e u1 ⟨rfl, B1⟩
  go_wp2_with fail
  go_loopw [0, 6] (fun ch i wr => ∃ (k : Nat) (cur : List Hd) (b : Option Addr) (c : Nat), k ≤ ds.length ∧ i = .int .i64 k ∧ Value.slice b cur.length c = ch ∧ Hid (IsHs wr b cur ∧ cur.length ≤ c) ∧ Hid (vlR cur = true) ∧ Hid (rdO cur (ds.drop k) = rdO hs ds) ∧ Below w.heap.size w wr) (fun _ i _ => ds.length - (intOf i).toNat)
  case atStart => exact ⟨0, hs, a, cap, Nat.zero_le _, rfl, rfl, ⟨hs_below HI.out B1, hc⟩, HV, rfl, B1⟩
  case round =>
    clear B1
    obtain ⟨k, cur, b, c, hk, rfl, rfl, HO, HC, HR, hB⟩ := hrel
    by_cases hlt : k < ds.length
    · rcases HD0.out with h0 | ⟨g, o, rfl, hg⟩
      · rw [h0] at hlt; exact absurd hlt (Nat.not_lt_zero _)
      obtain ⟨A, cz, c0, c1, c2, c3, c4, c5, hz, hzn, hzc⟩ := dd_below (hg k hlt) hB
      have HST := Lib.hid (rdd_stop hlt HR.out)
      have HNX := Lib.hid (rdd_next hlt HR.out)
      generalize ds.getD k dd0 = x at c0 c1 c2 c3 c4 c5 hz hzn hzc HST HNX
      have hcl := led_le HC.out
      have k0 : (0 : Int) ≤ (k : Int) := by omega
      have k1 : (k : Int) < (ds.length : Int) := by omega
      have CR := Lib.hid (sRunDeed b c cur A cz x wr HO.out.1 (by omega) HO.out.2 hz hzn hzc HC.out)
      have BE := Lib.hid hB
      clear hg hz hB
      obtain ⟨d, hdb⟩ : ∃ d, deedB cur x = d := ⟨_, rfl⟩
      rw [hdb] at CR HST HNX
      cases d with
      | false =>
        go_wp2_with fail
        refine CR.out.mono ?_
        rintro e u ⟨v, rfl, m1, m2, C⟩
        obtain rfl := m1 rfl
        go_wp2_with fail
        go_returns
        exact move_no _ (HST.out (by first | trivial | rfl)) (bel_tr BE.out C)
      | true =>
        go_wp2_with fail
        refine CR.out.mono ?_
        rintro e u ⟨v, rfl, m1, m2, C⟩
        have O3 := m2 rfl
        obtain ⟨b3, c3, rfl, I3, hc3⟩ := own_hs2 O3
        have HB3 := Lib.hid (bel_tr BE.out C)
        have HV3 := Lib.hid (deed_vl hdb)
        have HR3 := Lib.hid (HNX.out (by first | trivial | rfl))
        have HI3 := Lib.hid (And.intro I3 hc3)
        clear m1 m2 O3 I3 C hc3
        go_wp2_with fail
        go_roundw
        case rel => exact ⟨k + 1, _, b3, c3, by omega, by go_num, rfl, HI3, HV3, HR3, HB3.out⟩
        case measure => simp [intOf]; omega
    · obtain ⟨r1, r2⟩ := rdd_end (by omega) HR.out HV.out HB.out HC.out
      have HR1 := Lib.hid r1
      have HR2 := Lib.hid r2
      have hcl := led_le HC.out
      have HRe := Lib.hid ((hs_reads HO.out.1).alloc (Nat.le_refl _) (.cells #[] 97))
      have hbs := hB.size
      clear r1 r2
      go_wp2_with (first | (at_builtin; refine wpList_append_any _ rfl (.tmp 35) (.tmp 36) _ rfl w.heap.size 97 i0 _ 3 24 Try.underlying32 hi0 hz0 hz1 hz2 rfl (by omega) _ 0 [] rfl ⟨rfl, .inr ⟨wr.heap.size, 0, #[], rfl, hbs, Blk.new _ _ _, Nat.le_refl _, by unfold maxLen; omega, rfl, rfl⟩⟩ wr.heap.size b cur.length c (valsH cur) rfl HRe.out (vals_one cur) (by unfold maxLen; omega) (by omega) (by simp; omega) ?_; intro v1 u1 hown1 hg1 hat1))
      go_returns
      refine ⟨v1, by rw [HR1.out]; rfl, (fun c => by rw [HR1.out] at c; cases c), (fun _ => ?_), ?_⟩
      · rw [HR2.out]
        have := hown1
        rw [Nat.zero_add, List.nil_append] at this
        exact this
      · exact (hB.alloc hB.size _).grown hg1 (by simp; omega) (fun q hq => by have e : wr.heap.size = q := Option.some.inj hq; omega)
end Go.Proofs.Ytgmmdpdlekpmfaa
namespace Go.Proofs.Ytgmmdpdlekpmfaa
/-- what the model asks of the first k wishes of a list -/
def okW (n : Nat) (r : List Int) (k : Nat) : Bool := decide (0 ≤ r.getD k 0) && decide (r.getD k 0 < (n : Int)) && decide (r.getD k 0 ∉ r.take k)
/-- an order of n indices -/
def ordB (n : Nat) (r : List Int) : Bool := decide (r.length = n) && (List.range r.length).all (okW n r)
/-- valid wishes -/
def wishB (rs : List (List Int)) : Bool := decide (rs.length ≤ 8) && rs.all (ordB rs.length)
theorem has_all : ∀ (n : Nat) (l : List Int), (∀ i : Nat, i < n → (i : Int) ∈ l) → n ≤ l.length ∧ (l.length = n → l.Nodup ∧ ∀ x ∈ l, 0 ≤ x ∧ x < (n : Int)) := by
  intro n
  induction n with
  | zero =>
    intro l _
    refine ⟨Nat.zero_le _, fun h => ?_⟩
    have : l = [] := List.eq_nil_of_length_eq_zero h
    subst this
    exact ⟨List.nodup_nil, fun x hx => by simp at hx⟩
  | succ n ih =>
    intro l h
    have hn : (n : Int) ∈ l := h n (Nat.lt_succ_self n)
    have he : (l.erase (n : Int)).length = l.length - 1 := List.length_erase_of_mem hn
    have hpos : 0 < l.length := List.length_pos_of_mem hn
    obtain ⟨a, b⟩ := ih (l.erase (n : Int)) (fun i hi => (List.mem_erase_of_ne (by omega)).2 (h i (by omega)))
    refine ⟨by omega, fun hl => ?_⟩
    obtain ⟨c, d⟩ := b (by omega)
    have hp := List.perm_cons_erase hn
    refine ⟨hp.nodup_iff.2 (List.nodup_cons.2 ⟨fun hm => by have := d _ hm; omega, c⟩), fun x hx => ?_⟩
    rcases List.mem_cons.1 (hp.mem_iff.1 hx) with rfl | hm
    · omega
    · have := d x hm; omega
theorem in_all : ∀ (n : Nat) (l : List Int), l.Nodup → (∀ x ∈ l, 0 ≤ x ∧ x < (n : Int)) → l.length ≤ n ∧ (l.length = n → ∀ i : Nat, i < n → (i : Int) ∈ l) := by
  intro n
  induction n with
  | zero =>
    intro l _ h
    have : l = [] := List.eq_nil_iff_forall_not_mem.2 fun x hx => by have := h x hx; omega
    subst this
    exact ⟨Nat.le_refl _, fun _ i hi => absurd hi (Nat.not_lt_zero _)⟩
  | succ n ih =>
    intro l hd h
    by_cases hn : (n : Int) ∈ l
    · have he : (l.erase (n : Int)).length = l.length - 1 := List.length_erase_of_mem hn
      have hpos : 0 < l.length := List.length_pos_of_mem hn
      have hp := List.perm_cons_erase hn
      have hd2 := List.nodup_cons.1 (hp.nodup_iff.1 hd)
      obtain ⟨a, b⟩ := ih (l.erase (n : Int)) hd2.2 (fun x hx => by
        have h1 := h x (List.mem_of_mem_erase hx)
        have h2 : x ≠ (n : Int) := fun e => hd2.1 (by have h3 := hx; rw [e] at h3; exact h3)
        omega)
      refine ⟨by omega, fun hl i hi => ?_⟩
      by_cases e : i = n
      · subst e; exact hn
      · exact List.mem_of_mem_erase (b (by omega) i (by omega))
    · obtain ⟨a, b⟩ := ih l hd (fun x hx => by
        have h1 := h x hx
        have h2 : x ≠ (n : Int) := fun e => hn (by rw [← e]; exact hx)
        omega)
      exact ⟨by omega, fun hl => by omega⟩
theorem nodup_take {r : List Int} : r.Nodup ↔ ∀ k, k < r.length → r.getD k 0 ∉ r.take k := by
  have gd : ∀ k (hk : k < r.length), r.getD k 0 = r[k] := fun k hk => by rw [List.getD_eq_getElem?_getD, List.getElem?_eq_getElem hk]; rfl
  rw [List.nodup_iff_pairwise_ne, List.pairwise_iff_getElem]
  constructor
  · intro h k hk hm
    rw [gd k hk] at hm
    obtain ⟨i, hi, e⟩ := List.mem_take_iff_getElem.1 hm
    exact h i k (by omega) hk (by omega) e
  · intro h i j hi hj hij e
    have := h j hj
    rw [gd j hj, ← e] at this
    exact this (List.mem_take_iff_getElem.2 ⟨i, by omega, rfl⟩)
theorem ordB_iff (n : Nat) (r : List Int) : ordB n r = true ↔ r.length = n ∧ r.Nodup ∧ ∀ x ∈ r, 0 ≤ x ∧ x < (n : Int) := by
  have gd : ∀ k (hk : k < r.length), r.getD k 0 = r[k] := fun k hk => by rw [List.getD_eq_getElem?_getD, List.getElem?_eq_getElem hk]; rfl
  unfold ordB
  rw [Bool.and_eq_true, decide_eq_true_eq, rng_all, nodup_take]
  unfold okW
  simp only [Bool.and_eq_true, decide_eq_true_eq]
  constructor
  · rintro ⟨a, b⟩
    refine ⟨a, fun k hk => (b k hk).2, fun x hx => ?_⟩
    obtain ⟨k, hk, e⟩ := List.mem_iff_getElem.1 hx
    have := (b k hk).1
    rw [gd k hk, e] at this
    exact this
  · rintro ⟨a, b, c⟩
    exact ⟨a, fun k hk => ⟨by rw [gd k hk]; exact c _ (List.getElem_mem _), b k hk⟩⟩
/-- as the program asks it -/
def hasB (n : Nat) (r : List Int) : Bool := decide (r.length = n) && (List.range n).all fun i => decide ((i : Int) ∈ r)
theorem has_ord (n : Nat) (r : List Int) : hasB n r = ordB n r := by
  rw [Bool.eq_iff_iff, ordB_iff]
  unfold hasB
  rw [Bool.and_eq_true, decide_eq_true_eq, rng_all]
  simp only [decide_eq_true_eq]
  constructor
  · rintro ⟨a, b⟩
    exact ⟨a, (has_all n r b).2 a⟩
  · rintro ⟨a, b, c⟩
    exact ⟨a, (in_all n r b c).2 a⟩
end Go.Proofs.Ytgmmdpdlekpmfaa
namespace Go.Proofs.Ytgmmdpdlekpmfaa
open Go.RowKit
set_option linter.unusedSimpArgs false
set_option linter.unusedVariables false

/-- at a lie the lists rs, in this world -/
def IsRows (w : World) (a : Option Addr) (rs : List (List Int)) : Prop := rs = [] ∨ ∃ g o, a = some ⟨g, o, none⟩ ∧ ∀ i, i < rs.length → ∃ A cap, w.cell? ⟨g, o + i, none⟩ = some (.slice A (rs.getD i []).length cap) ∧ (rs.getD i []).length ≤ cap ∧ IsInts w A (rs.getD i [])
theorem rows_below {w w' : World} {a : Option Addr} {rs : List (List Int)} (h : IsRows w a rs) (hB : Below w.heap.size w w') : IsRows w' a rs := by
  rcases h with h | ⟨g, o, ha, hc⟩
  · exact .inl h
  · refine .inr ⟨g, o, ha, fun i hi => ?_⟩
    obtain ⟨A, cap, c, hl, hi2⟩ := hc i hi
    exact ⟨A, cap, (hB.cell (World.block_lt_of_cell? w _ c)).trans c, hl, ints_below hi2 hB⟩
theorem has_no {n : Nat} {r : List Int} {k : Nat} (hk : k < n) (h : (k : Int) ∉ r) : hasB n r = false := by
  unfold hasB
  rw [Bool.and_eq_false_iff]
  exact .inr (rng_no hk (decide_eq_false h))
theorem has_len {n : Nat} {r : List Int} (h : r.length ≠ n) : hasB n r = false := by
  unfold hasB; rw [decide_eq_false h]; rfl
theorem has_yes {n : Nat} {r : List Int} (h : r.length = n) (h2 : ∀ k : Nat, k < n → (k : Int) ∈ r) : hasB n r = true := by
  unfold hasB; rw [decide_eq_true h, rng_yes fun j hj => decide_eq_true (h2 j hj)]; rfl

theorem wish_no1 {rs : List (List Int)} (h : 8 < rs.length) : wishB rs = false := by unfold wishB; rw [decide_eq_false (by omega)]; rfl
theorem rows_mem {rs : List (List Int)} {k : Nat} (h : k < rs.length) : rs.getD k [] ∈ rs := by
  rw [List.getD_eq_getElem?_getD, List.getElem?_eq_getElem h]; exact List.getElem_mem _
theorem wish_no2 {rs : List (List Int)} {k : Nat} (h : k < rs.length) (h2 : ordB rs.length (rs.getD k []) = false) : wishB rs = false := by
  unfold wishB
  rw [Bool.and_eq_false_iff]
  refine .inr ?_
  rw [Bool.eq_false_iff]
  intro c
  rw [List.all_eq_true] at c
  rw [c _ (rows_mem h)] at h2
  cases h2
theorem wish_yes {rs : List (List Int)} (h : rs.length ≤ 8) (h2 : ∀ k, k < rs.length → ordB rs.length (rs.getD k []) = true) : wishB rs = true := by
  unfold wishB
  rw [decide_eq_true h, Bool.true_and, List.all_eq_true]
  intro x hx
  obtain ⟨k, hk, e⟩ := List.mem_iff_getElem.1 hx
  have := h2 k hk
  rwa [List.getD_eq_getElem?_getD, List.getElem?_eq_getElem hk, Option.getD_some, e] at this

end Go.Proofs.Ytgmmdpdlekpmfaa
namespace Go.Proofs.Ytgmmdpdlekpmfaa
open Go.RowKit
set_option linter.unusedSimpArgs false
set_option linter.unusedVariables false
/-- what is told of lists of numbers that came in -/
def RowsIn (w : World) (a : Option Addr) (len cap : Nat) (rs : List (List Int)) : Prop := rs.length = len ∧ IsRows w a rs ∧ len ≤ cap ∧ cap ≤ maxLen ∧ ∀ r ∈ rs, r.length ≤ maxLen
/-- what is left behind the sizes of lists -/
def szL : Int → List (List Int) → Int
  | left, [] => left
  | left, r :: t => if left - (r.length : Int) < 0 then -1 else szL (left - (r.length : Int)) t
def szSS (left : Int) (rs : List (List Int)) : Int := if left - (rs.length : Int) < 0 then -1 else szL (left - (rs.length : Int)) rs
theorem szL_pos : ∀ (rs : List (List Int)) (left : Int), ¬ szL left rs < 0 → 0 ≤ left → ∀ r ∈ rs, (r.length : Int) ≤ left := by
  intro rs
  induction rs with
  | nil => intro left _ _ r h; cases h
  | cons x t ih =>
    intro left h h0 r hr
    have e : szL left (x :: t) = if left - (x.length : Int) < 0 then -1 else szL (left - (x.length : Int)) t := rfl
    rw [e] at h
    by_cases c : left - (x.length : Int) < 0
    · rw [if_pos c] at h; omega
    · rw [if_neg c] at h
      rcases List.mem_cons.1 hr with rfl | hr
      · omega
      · have := ih _ h (by omega) r hr; omega
theorem szSS_pos {left : Int} {rs : List (List Int)} (h : ¬ szSS left rs < 0) (h0 : 0 ≤ left) : (rs.length : Int) ≤ left ∧ ∀ r ∈ rs, (r.length : Int) ≤ left := by
  unfold szSS at h
  by_cases c : left - (rs.length : Int) < 0
  · rw [if_pos c] at h; omega
  · rw [if_neg c] at h
    exact ⟨by omega, fun r hr => by have := szL_pos rs _ h (by omega) r hr; omega⟩
end Go.Proofs.Ytgmmdpdlekpmfaa
namespace Go.Proofs.Ytgmmdpdlekpmfaa
open Go.RowKit
set_option linter.unusedSimpArgs false
set_option linter.unusedVariables false
theorem infoRowL : (Try.prog.info? 105).map (fun i => (i.zero, i.size, i.bytes)) = some (some (.slice none 0 0), 1, 24) := by kernel_rfl
theorem rows_nth {w : World} {a : Option Addr} {rs : List (List Int)} (h : IsRows w a rs) {k : Nat} (hk : k < rs.length) : ∃ g o A cap, a = some ⟨g, o, none⟩ ∧ w.cell? ⟨g, o + k, none⟩ = some (.slice A (rs.getD k []).length cap) ∧ (rs.getD k []).length ≤ cap ∧ IsInts w A (rs.getD k []) := by
  rcases h with rfl | ⟨g, o, rfl, hc⟩
  · simp at hk
  · obtain ⟨A, cap, a, b, c⟩ := hc k hk
    exact ⟨g, o, A, cap, rfl, a, b, c⟩
theorem ret_z {z y : Int} (h : z = y) : Ending.returned (.int .i64 z) = Ending.returned (.int .i64 y) := by rw [h]
theorem szL_at {rs : List (List Int)} {k : Nat} (hk : k < rs.length) (L : Int) : szL L (rs.drop k) = if L - ((rs.getD k []).length : Int) < 0 then -1 else szL (L - ((rs.getD k []).length : Int)) (rs.drop (k + 1)) := by
  rw [List.drop_eq_getElem_cons hk]
  rw [List.getD_eq_getElem?_getD, List.getElem?_eq_getElem hk]; rfl
theorem lszI (A : Option Addr) (n cap : Nat) (L : Int) (w : World) (h0 : 0 ≤ L) (h1 : L ≤ 1048576) (hn : n ≤ 9223372036854775807) :
    Calls Try.prog 108 #[.slice A n cap, .int .i64 L] w fun e w' => e = .returned (.int .i64 (if L - (n : Int) < 0 then -1 else L - (n : Int))) ∧ w = w' := by
  have wz : IntKind.i64.wrap (L - (n : Int)) = L - (n : Int) := by rw [IntKind.wrap_i64]; omega
  by_cases c : L - (n : Int) < 0
  · have e0 : decide (L - (n : Int) < 0) = true := decide_eq_true c
    rw [if_pos c]
    clear c
    go_enter Try.func108, Try.ntmps108
    go_wp2_with fail
    go_ret
    exact ⟨rfl, rfl⟩
  · have e0 : decide (L - (n : Int) < 0) = false := decide_eq_false c
    rw [if_neg c]
    clear c
    go_enter Try.func108, Try.ntmps108
    go_wp2_with fail
    go_ret
    exact ⟨rfl, rfl⟩
/-- block g is a row of lists of the call's own, each in a block of its own -/
def RowSS (w : World) (g : Nat) (G : Nat → Nat) (n : Nat) (rs : List (List Int)) : Prop := (w.rowIs g 105 rs.length fun j => if j < n then .slice (some ⟨G j, 0, none⟩) (rs.getD j []).length (rs.getD j []).length else .slice none 0 0) ∧ (∀ j, j < n → g < G j ∧ Row w (G j) (rs.getD j [])) ∧ ∀ i j, i < j → j < n → G i < G j
theorem RowSS.rows {w : World} {g : Nat} {G : Nat → Nat} {rs : List (List Int)} (h : RowSS w g G rs.length rs) : IsRows w (some ⟨g, 0, none⟩) rs := by
  refine .inr ⟨g, 0, rfl, fun i hi => ⟨some ⟨G i, 0, none⟩, (rs.getD i []).length, ?_, Nat.le_refl _, row_ints (h.2.1 i hi).2⟩⟩
  have := h.1.cell hi
  rw [if_pos hi] at this
  rw [Nat.zero_add]; exact this
/-- what toIntSS leaves -/
def CopiedSS (w : World) (rs : List (List Int)) (e : Ending) (w' : World) : Prop := ∃ (g : Nat) (G : Nat → Nat), e = .returned (.slice (some ⟨g, 0, none⟩) rs.length rs.length) ∧ w.heap.size ≤ g ∧ RowSS w' g G rs.length rs ∧ Below w.heap.size w w'
end Go.Proofs.Ytgmmdpdlekpmfaa
namespace Go.Proofs.Ytgmmdpdlekpmfaa
open Go.RowKit
set_option linter.unusedSimpArgs false
set_option linter.unusedVariables false
/-- s, s + 1 .. -/
def mkS (s : Int) (n : Nat) : List Int := (List.range n).map fun (i : Nat) => s + (i : Int)
theorem mkS_len (s : Int) (n : Nat) : (mkS s n).length = n := by unfold mkS; simp
theorem mkS_get (s : Int) (n : Nat) {k : Nat} (h : k < n) : (mkS s n).getD k 0 = s + (k : Int) := by
  unfold mkS
  rw [List.getD_eq_getElem?_getD, List.getElem?_map, List.getElem?_range h]; rfl
/-- the first j numbers written anew -/
def mkTo (s : Int) (zs : List Int) (j : Nat) : List Int := (List.range zs.length).map fun (i : Nat) => if i < j then s + (i : Int) else zs.getD i 0
theorem mkTo_len (s : Int) (zs : List Int) (j : Nat) : (mkTo s zs j).length = zs.length := by unfold mkTo; simp
theorem mkTo_get (s : Int) (zs : List Int) (j : Nat) {i : Nat} (h : i < zs.length) : (mkTo s zs j).getD i 0 = if i < j then s + (i : Int) else zs.getD i 0 := by
  unfold mkTo
  rw [List.getD_eq_getElem?_getD, List.getElem?_map, List.getElem?_range h]; rfl
theorem mk_ext {a b : List Int} (hl : a.length = b.length) (h : ∀ i, i < a.length → a.getD i 0 = b.getD i 0) : a = b := by
  apply List.ext_getElem hl
  intro i h1 h2
  have := h i h1
  rw [List.getD_eq_getElem?_getD, List.getElem?_eq_getElem h1, List.getD_eq_getElem?_getD, List.getElem?_eq_getElem h2] at this
  exact this
theorem mkTo_zero (s : Int) (zs : List Int) : mkTo s zs 0 = zs := mk_ext (mkTo_len s zs 0) (fun i hi => by rw [mkTo_len] at hi; rw [mkTo_get s zs 0 hi, if_neg (Nat.not_lt_zero _)])
theorem mkTo_set (s : Int) {zs : List Int} {j : Nat} (h : j < zs.length) : (mkTo s zs j).set j (s + (j : Int)) = mkTo s zs (j + 1) := by
  refine mk_ext (by rw [List.length_set, mkTo_len, mkTo_len]) (fun i hi => ?_)
  rw [List.length_set, mkTo_len] at hi
  rw [getD_setF (by rw [mkTo_len]; exact h), mkTo_get s zs j hi, mkTo_get s zs (j + 1) hi]
  by_cases e : i = j
  · subst e; rw [if_pos rfl, if_pos (by omega)]
  · rw [if_neg e]
    by_cases c : i < j
    · rw [if_pos c, if_pos (by omega)]
    · rw [if_neg c, if_neg (by omega)]
theorem mkTo_end (s : Int) (zs : List Int) : mkTo s zs zs.length = mkS s zs.length := by
  refine mk_ext (by rw [mkTo_len, mkS_len]) (fun i hi => ?_)
  rw [mkTo_len] at hi
  rw [mkTo_get s zs _ hi, if_pos hi, mkS_get s _ hi]
/-- a row of the call's own that begins with numbers: nil, or a block -/
def RowF (w : World) (base : Nat) (t : TypeId) (v : Value) (n : Nat) (zs : List Int) : Prop := (v = .slice none 0 0 ∧ n = 0) ∨ ∃ g cap, v = .slice (some ⟨g, 0, none⟩) n cap ∧ base ≤ g ∧ Flat w g t zs ∧ n ≤ cap
theorem RowF.next {w w' : World} {base n : Nat} {t : TypeId} {v : Value} {zs : List Int} (h : RowF w base t v n zs) (hb : Below w.heap.size w w') : RowF w' base t v n zs := by
  rcases h with h | ⟨g, cap, hv, hg, F, hc⟩
  · exact .inl h
  · exact .inr ⟨g, cap, hv, hg, F.next hb, hc⟩
theorem RowF.base {w : World} {a b n : Nat} {t : TypeId} {v : Value} {zs : List Int} (h : RowF w b t v n zs) (hab : a ≤ b) : RowF w a t v n zs := by
  rcases h with h | ⟨g, cap, hv, hg, r⟩
  · exact .inl h
  · exact .inr ⟨g, cap, hv, Nat.le_trans hab hg, r⟩
/-- a row of another type has another block -/
theorem Flat.type_ne {w : World} {g g' : Nat} {t t' : TypeId} {zs zs' : List Int} (h : Flat w g t zs) (h' : Flat w g' t' zs') (hne : t ≠ t') : g ≠ g' := by
  rintro rfl
  obtain ⟨cs, hb, _⟩ := h
  obtain ⟨cs', hb', _⟩ := h'
  rw [hb] at hb'
  injection hb' with e
  injection e with _ e2
  exact hne e2
theorem RowF.apart {w w' : World} {base n base' n' : Nat} {t t' : TypeId} {v v' : Value} {zs zs' : List Int} (h : RowF w base t v n zs) (h' : RowF w base' t' v' n' zs') (hne : t ≠ t') (hG : w.grownBy w' v'.ownBlock) : RowF w' base t v n zs := by
  rcases h with h | ⟨g, cap, hv, hg, F, hc⟩
  · exact .inl h
  · refine .inr ⟨g, cap, hv, hg, F.of_block (hG.block g F.lt ?_), hc⟩
    rcases h' with ⟨e, _⟩ | ⟨g', cap', e, _, F', _⟩
    · rw [e]; intro c; cases c
    · rw [e]; intro c
      injection c with c
      exact F.type_ne F' hne c
theorem RowF.far {w w' : World} {base n : Nat} {t : TypeId} {v : Value} {zs : List Int} {row : Option Nat} (h : RowF w base t v n zs) (hG : w.grownBy w' row) (hr : ∀ q, row = some q → q < base) : RowF w' base t v n zs := by
  rcases h with h | ⟨g, cap, hv, hg, F, hc⟩
  · exact .inl h
  · refine .inr ⟨g, cap, hv, hg, F.of_block (hG.block g F.lt ?_), hc⟩
    intro c
    have := hr g c.symm
    omega
theorem RowF.lt {w : World} {base n : Nat} {t : TypeId} {v : Value} {zs : List Int} (h : RowF w base t v n zs) : ∀ q, v.ownBlock = some q → base ≤ q ∧ q < w.heap.size := by
  rcases h with ⟨e, _⟩ | ⟨g, cap, e, hg, F, _⟩
  · rw [e]; intro q c; cases c
  · rw [e]; intro q c
    injection c with c
    have c : g = q := c
    subst c; exact ⟨hg, F.lt⟩
theorem below_rowF {w a b : World} {base n : Nat} {t : TypeId} {v : Value} {zs : List Int} (h : Below w.heap.size w a) (hR : RowF a base t v n zs) (hb : w.heap.size ≤ base) (hG : a.grownBy b v.ownBlock) : Below w.heap.size w b :=
  h.grown hG h.size (fun q hq => Nat.le_trans hb (hR.lt q hq).1)
end Go.Proofs.Ytgmmdpdlekpmfaa
namespace Go.Proofs.Ytgmmdpdlekpmfaa
open Go.RowKit
set_option linter.unusedSimpArgs false
set_option linter.unusedVariables false
theorem rowN {w w' : World} {base n size : Nat} {t : TypeId} {v : Value} {xs : List Value} (h : w.ownsRow base t size v n xs) (hb : Below w.heap.size w w') : w'.ownsRow base t size v n xs := by
  refine ⟨h.1, ?_⟩
  rcases h.2 with h0 | ⟨g, cap, cur, hv, hg, hb0, r⟩
  · exact .inl h0
  · exact .inr ⟨g, cap, cur, hv, hg, (hb.block g (Blk.lt hb0)).trans hb0, r⟩
theorem rowH {w w' : World} {base n size : Nat} {t : TypeId} {v : Value} {xs : List Value} (h : w.ownsRow base t size v n xs) (hk : ∀ (g : Nat) (cs : Array Value), w.heap[g]? = some (Obj.cells cs t (0, 0)) → w'.heap[g]? = w.heap[g]?) : w'.ownsRow base t size v n xs := by
  refine ⟨h.1, ?_⟩
  rcases h.2 with h0 | ⟨g, cap, cur, hv, hg, hb0, r⟩
  · exact .inl h0
  · exact .inr ⟨g, cap, cur, hv, hg, (hk g cur hb0).trans hb0, r⟩
theorem blk_type {w : World} {b g : Nat} {t t' : TypeId} {cs cs' : Array Value} (K : Blk w b t cs) (h : w.heap[g]? = some (Obj.cells cs' t' (0, 0))) (hne : t ≠ t') : g ≠ b := by
  rintro rfl
  unfold Blk at K
  rw [K] at h
  injection h with e
  injection e with _ e2
  exact hne e2
theorem rowS {w : World} {base n size b : Nat} {t t' : TypeId} {v : Value} {xs : List Value} {cs : Array Value} (h : w.ownsRow base t size v n xs) (K : Blk w b t' cs) (hne : t' ≠ t) (j : Nat) (x : Value) : (w.setCell ⟨b, j, none⟩ x).ownsRow base t size v n xs :=
  rowH h (fun g cs' hg => Below.heap_setCell w ⟨b, j, none⟩ x g (blk_type K hg hne))
theorem rowG {w w' : World} {base n size : Nat} {t : TypeId} {v : Value} {xs : List Value} {O : Obj} (h : w.ownsRow base t size v n xs) (hG : (w.alloc O).grownBy w' (some w.heap.size)) : w'.ownsRow base t size v n xs :=
  rowH h (fun g cs hg => by
    have hlt : g < w.heap.size := Blk.lt hg
    exact (hG.block g (by simp; omega) (fun e => by injection e with e; omega)).trans (Below.heap_alloc w O g hlt))
theorem blkN {w w' : World} {g : Nat} {t : TypeId} {cs : Array Value} {O : Obj} (h : Blk w g t cs) (hG : (w.alloc O).grownBy w' (some w.heap.size)) : Blk w' g t cs :=
  (h.alloc O).grown hG (fun e => by injection e with e; exact absurd h.lt (by omega))
theorem belN {w0 w w' : World} {O : Obj} (h : Below w0.heap.size w0 w) (hG : (w.alloc O).grownBy w' (some w.heap.size)) : Below w0.heap.size w0 w' :=
  (h.alloc h.size O).grown hG (by have := h.size; simp; omega) (fun q e => by injection e with e; have := h.size; omega)
theorem own_form {w : World} {base n size : Nat} {t : TypeId} {v : Value} {xs : List Value} (h : w.ownsRow base t size v n xs) : ∃ b k, v = .slice b n k ∧ n ≤ k := by
  rcases h.2 with ⟨e, h0⟩ | ⟨g, cap, cur, e, _, _, hc, _⟩
  · exact ⟨none, 0, by rw [e, h0], by omega⟩
  · exact ⟨_, _, e, hc⟩
theorem own_rowF {w : World} {base n size : Nat} {t : TypeId} {v : Value} {zs : List Int} (h : w.ownsRow base t size v n (zs.map (Value.int .i64))) : RowF w base t v n zs := Flat.own h
/-- 6 cells of a block stored anew -/
def sets6 (w : World) (b : Nat) (v0 v1 v2 v3 v4 v5 : Value) : World := ((((((w.setCell ⟨b, 0, none⟩ v0).setCell ⟨b, 1, none⟩ v1).setCell ⟨b, 2, none⟩ v2).setCell ⟨b, 3, none⟩ v3).setCell ⟨b, 4, none⟩ v4).setCell ⟨b, 5, none⟩ v5)
theorem sets6_below {w W : World} {b : Nat} {v0 v1 v2 v3 v4 v5 : Value} (h : Below w.heap.size w W) (hb : w.heap.size ≤ b) : Below w.heap.size w (sets6 W b v0 v1 v2 v3 v4 v5) := ((((((h.setCell (p := ⟨b, 0, none⟩) hb v0).setCell (p := ⟨b, 1, none⟩) hb v1).setCell (p := ⟨b, 2, none⟩) hb v2).setCell (p := ⟨b, 3, none⟩) hb v3).setCell (p := ⟨b, 4, none⟩) hb v4).setCell (p := ⟨b, 5, none⟩) hb v5)
theorem sets6_blk {w : World} {b : Nat} {t : TypeId} {u0 u1 u2 u3 u4 u5 v0 v1 v2 v3 v4 v5 : Value} (h : Blk w b t #[u0, u1, u2, u3, u4, u5]) : Blk (sets6 w b v0 v1 v2 v3 v4 v5) b t #[v0, v1, v2, v3, v4, v5] := by
  have k := ((((((h.set_ 0 v0).set_ 1 v1).set_ 2 v2).set_ 3 v3).set_ 4 v4).set_ 5 v5)
  simp only [List.setIfInBounds_toArray, List.set_cons_zero, List.set_cons_succ] at k
  exact k
theorem rowX6 {w : World} {base n size b : Nat} {t t' : TypeId} {v : Value} {xs : List Value} {cs : Array Value} {v0 v1 v2 v3 v4 v5 : Value} (h : w.ownsRow base t size v n xs) (K : Blk w b t' cs) (hne : t' ≠ t) : (sets6 w b v0 v1 v2 v3 v4 v5).ownsRow base t size v n xs :=
  rowH h (fun g cs' hg => by
    have hn := blk_type K hg hne
    unfold sets6
    rw [Below.heap_setCell _ _ _ g hn, Below.heap_setCell _ _ _ g hn, Below.heap_setCell _ _ _ g hn, Below.heap_setCell _ _ _ g hn, Below.heap_setCell _ _ _ g hn, Below.heap_setCell _ _ _ g hn])
theorem cells6 {w : World} {g : Nat} {t : TypeId} {v0 v1 v2 v3 v4 v5 : Value} (h : Blk w g t #[v0, v1, v2, v3, v4, v5]) : w.cell? ⟨g, 0, none⟩ = some v0 ∧ w.cell? ⟨g, 1, none⟩ = some v1 ∧ w.cell? ⟨g, 2, none⟩ = some v2 ∧ w.cell? ⟨g, 3, none⟩ = some v3 ∧ w.cell? ⟨g, 4, none⟩ = some v4 ∧ w.cell? ⟨g, 5, none⟩ = some v5 := ⟨h.cell 0, h.cell 1, h.cell 2, h.cell 3, h.cell 4, h.cell 5⟩
/-- 9 cells of a block stored anew -/
def sets9 (w : World) (b : Nat) (v0 v1 v2 v3 v4 v5 v6 v7 v8 : Value) : World := (((((((((w.setCell ⟨b, 0, none⟩ v0).setCell ⟨b, 1, none⟩ v1).setCell ⟨b, 2, none⟩ v2).setCell ⟨b, 3, none⟩ v3).setCell ⟨b, 4, none⟩ v4).setCell ⟨b, 5, none⟩ v5).setCell ⟨b, 6, none⟩ v6).setCell ⟨b, 7, none⟩ v7).setCell ⟨b, 8, none⟩ v8)
theorem sets9_below {w W : World} {b : Nat} {v0 v1 v2 v3 v4 v5 v6 v7 v8 : Value} (h : Below w.heap.size w W) (hb : w.heap.size ≤ b) : Below w.heap.size w (sets9 W b v0 v1 v2 v3 v4 v5 v6 v7 v8) := (((((((((h.setCell (p := ⟨b, 0, none⟩) hb v0).setCell (p := ⟨b, 1, none⟩) hb v1).setCell (p := ⟨b, 2, none⟩) hb v2).setCell (p := ⟨b, 3, none⟩) hb v3).setCell (p := ⟨b, 4, none⟩) hb v4).setCell (p := ⟨b, 5, none⟩) hb v5).setCell (p := ⟨b, 6, none⟩) hb v6).setCell (p := ⟨b, 7, none⟩) hb v7).setCell (p := ⟨b, 8, none⟩) hb v8)
theorem sets9_blk {w : World} {b : Nat} {t : TypeId} {u0 u1 u2 u3 u4 u5 u6 u7 u8 v0 v1 v2 v3 v4 v5 v6 v7 v8 : Value} (h : Blk w b t #[u0, u1, u2, u3, u4, u5, u6, u7, u8]) : Blk (sets9 w b v0 v1 v2 v3 v4 v5 v6 v7 v8) b t #[v0, v1, v2, v3, v4, v5, v6, v7, v8] := by
  have k := (((((((((h.set_ 0 v0).set_ 1 v1).set_ 2 v2).set_ 3 v3).set_ 4 v4).set_ 5 v5).set_ 6 v6).set_ 7 v7).set_ 8 v8)
  simp only [List.setIfInBounds_toArray, List.set_cons_zero, List.set_cons_succ] at k
  exact k
theorem rowX9 {w : World} {base n size b : Nat} {t t' : TypeId} {v : Value} {xs : List Value} {cs : Array Value} {v0 v1 v2 v3 v4 v5 v6 v7 v8 : Value} (h : w.ownsRow base t size v n xs) (K : Blk w b t' cs) (hne : t' ≠ t) : (sets9 w b v0 v1 v2 v3 v4 v5 v6 v7 v8).ownsRow base t size v n xs :=
  rowH h (fun g cs' hg => by
    have hn := blk_type K hg hne
    unfold sets9
    rw [Below.heap_setCell _ _ _ g hn, Below.heap_setCell _ _ _ g hn, Below.heap_setCell _ _ _ g hn, Below.heap_setCell _ _ _ g hn, Below.heap_setCell _ _ _ g hn, Below.heap_setCell _ _ _ g hn, Below.heap_setCell _ _ _ g hn, Below.heap_setCell _ _ _ g hn, Below.heap_setCell _ _ _ g hn])
theorem cells9 {w : World} {g : Nat} {t : TypeId} {v0 v1 v2 v3 v4 v5 v6 v7 v8 : Value} (h : Blk w g t #[v0, v1, v2, v3, v4, v5, v6, v7, v8]) : w.cell? ⟨g, 0, none⟩ = some v0 ∧ w.cell? ⟨g, 1, none⟩ = some v1 ∧ w.cell? ⟨g, 2, none⟩ = some v2 ∧ w.cell? ⟨g, 3, none⟩ = some v3 ∧ w.cell? ⟨g, 4, none⟩ = some v4 ∧ w.cell? ⟨g, 5, none⟩ = some v5 ∧ w.cell? ⟨g, 6, none⟩ = some v6 ∧ w.cell? ⟨g, 7, none⟩ = some v7 ∧ w.cell? ⟨g, 8, none⟩ = some v8 := ⟨h.cell 0, h.cell 1, h.cell 2, h.cell 3, h.cell 4, h.cell 5, h.cell 6, h.cell 7, h.cell 8⟩
end Go.Proofs.Ytgmmdpdlekpmfaa
namespace Go.Proofs.Ytgmmdpdlekpmfaa
open Go.RowKit
set_option linter.unusedSimpArgs false
set_option linter.unusedVariables false
def sumLn : List (List Int) → Int
  | [] => 0
  | r :: t => (r.length : Int) + sumLn t
theorem sumLn_pos : ∀ rs, 0 ≤ sumLn rs := by
  intro rs
  induction rs with
  | nil => exact Int.le_refl _
  | cons r t ih => show 0 ≤ (r.length : Int) + sumLn t; omega
theorem sumLn_at {rs : List (List Int)} {k : Nat} (hk : k < rs.length) : sumLn (rs.drop k) = ((rs.getD k []).length : Int) + sumLn (rs.drop (k + 1)) := by
  rw [List.drop_eq_getElem_cons hk, List.getD_eq_getElem?_getD, List.getElem?_eq_getElem hk]; rfl
theorem szL_sum : ∀ (rs : List (List Int)) (left : Int), ¬ szL left rs < 0 → 0 ≤ left → sumLn rs ≤ left := by
  intro rs
  induction rs with
  | nil => intro left _ h; exact h
  | cons x t ih =>
    intro left h h0
    have e : szL left (x :: t) = if left - (x.length : Int) < 0 then -1 else szL (left - (x.length : Int)) t := rfl
    rw [e] at h
    show (x.length : Int) + sumLn t ≤ left
    by_cases c : left - (x.length : Int) < 0
    · rw [if_pos c] at h; omega
    · rw [if_neg c] at h
      have := ih _ h (by omega); omega
theorem szSS_sum {left : Int} {rs : List (List Int)} (h : ¬ szSS left rs < 0) : sumLn rs ≤ left := by
  unfold szSS at h
  by_cases c : left - (rs.length : Int) < 0
  · rw [if_pos c] at h; omega
  · rw [if_neg c] at h
    have := szL_sum rs _ h (by omega); omega
theorem RowSS.next {w w' : World} {g : Nat} {G : Nat → Nat} {rs : List (List Int)} (h : RowSS w g G rs.length rs) (hg : g < w.heap.size) (hb : Below w.heap.size w w') : RowSS w' g G rs.length rs :=
  ⟨World.rowIs.of_block h.1 (hb.block g hg), fun j hj => ⟨(h.2.1 j hj).1, row_keep (h.2.1 j hj).2 hb⟩, h.2.2⟩
/-- what marks on lists in the blocks lo to hi leave -/
def MarkedSS (lo hi : Nat) (w : World) (e : Ending) (w' : World) : Prop := ∃ s : Int, e = .returned (.int .i64 s) ∧ 0 ≤ s ∧ (∀ base v zs, OwnI w base v zs → (∀ q, v.ownBlock = some q → hi ≤ q) → OwnI w' base v zs) ∧ ∀ W0 : World, W0.heap.size ≤ lo → Below W0.heap.size W0 w → Below W0.heap.size W0 w'
end Go.Proofs.Ytgmmdpdlekpmfaa
namespace Go.Proofs.Ytgmmdpdlekpmfaa
open Go.RowKit
set_option linter.unusedSimpArgs false
set_option linter.unusedVariables false

theorem rwNe {w : World} {b g : Nat} {t' : TypeId} {zs : List Int} {cs : Array Value} (h : Row w g zs) (K : Blk w b t' cs) (hne : t' ≠ 3) : g ≠ b := by
  obtain ⟨c, hc, _⟩ := h
  exact blk_type K hc hne
theorem rwS {w : World} {b g : Nat} {t' : TypeId} {zs : List Int} {cs : Array Value} (h : Row w g zs) (K : Blk w b t' cs) (hne : t' ≠ 3) (j : Nat) (v : Value) : Row (w.setCell ⟨b, j, none⟩ v) g zs :=
  World.rowIs.of_block h (Below.heap_setCell w ⟨b, j, none⟩ v g (rwNe h K hne))
theorem rwX6 {w : World} {b g : Nat} {t' : TypeId} {zs : List Int} {cs : Array Value} {v0 v1 v2 v3 v4 v5 : Value} (h : Row w g zs) (K : Blk w b t' cs) (hne : t' ≠ 3) : Row (sets6 w b v0 v1 v2 v3 v4 v5) g zs :=
  World.rowIs.of_block h (by
    have hn := rwNe h K hne
    unfold sets6
    rw [Below.heap_setCell _ _ _ g hn, Below.heap_setCell _ _ _ g hn, Below.heap_setCell _ _ _ g hn, Below.heap_setCell _ _ _ g hn, Below.heap_setCell _ _ _ g hn, Below.heap_setCell _ _ _ g hn])
def zss (ds : List Dd) : List (List Int) := ds.map fun x => x.zs
theorem zss_len (ds : List Dd) : (zss ds).length = ds.length := by unfold zss; simp
theorem zss_get (ds : List Dd) (k : Nat) : (zss ds).getD k [] = (ds.getD k dd0).zs := by
  unfold zss
  rw [List.getD_eq_getElem?_getD, List.getD_eq_getElem?_getD, List.getElem?_map]
  cases ds[k]? <;> rfl
set_option maxRecDepth 100000 in
/-- laws.szDeed -/
theorem lszDd (A : Option Addr) (cz : Nat) (x : Dd) (L : Int) (w : World) (h0 : 0 ≤ L) (h1 : L ≤ 1048576) (hn : x.zs.length ≤ 9223372036854775807) :
    Calls Try.prog 77 #[.agg #[.int .i64 x.k, .int .i64 x.o, .int .i64 x.t, .int .i64 x.n, .int .i64 x.d, .slice A x.zs.length cz], .int .i64 L] w fun e w' => e = .returned (.int .i64 (if L - (x.zs.length : Int) < 0 then -1 else L - (x.zs.length : Int))) ∧ Below w.heap.size w w' := by
  obtain ⟨k, o, t, n, d, zs⟩ := x
  dsimp only at hn ⊢
  have B := (Below.refl w.heap.size w).alloc (Nat.le_refl _) (.cells #[.int .i64 k, .int .i64 o, .int .i64 t, .int .i64 n, .int .i64 d, .slice A zs.length cz] 110)
  have K := Blk.new w 110 #[.int .i64 k, .int .i64 o, .int .i64 t, .int .i64 n, .int .i64 d, .slice A zs.length cz]
  obtain ⟨q0, q1, q2, q3, q4, q5⟩ := cells6 K
  by_cases c : L - (zs.length : Int) < 0
  · have e1 : decide ((-1 : Int) < 0) = true := rfl
    have CC : ∀ W, Calls Try.prog 108 #[.slice A zs.length cz, .int .i64 L] W fun e w' => e = .returned (.int .i64 (-1)) ∧ W = w' := fun W => by
      have := lszI A zs.length cz L W h0 h1 hn
      rw [if_pos c] at this; exact this
    rw [if_pos c]
    clear c K
    go_enter Try.func77, Try.ntmps77
    go_wp2_with fail
    refine (CC _).mono ?_
    rintro e u ⟨rfl, rfl⟩
    go_wp2_with fail
    go_ret
    exact ⟨rfl, B⟩
  · have e1 : decide (L - (zs.length : Int) < 0) = false := decide_eq_false c
    have CC : ∀ W, Calls Try.prog 108 #[.slice A zs.length cz, .int .i64 L] W fun e w' => e = .returned (.int .i64 (L - (zs.length : Int))) ∧ W = w' := fun W => by
      have := lszI A zs.length cz L W h0 h1 hn
      rw [if_neg c] at this; exact this
    rw [if_neg c]
    clear c K
    generalize L - (zs.length : Int) = L' at *
    go_enter Try.func77, Try.ntmps77
    go_wp2_with fail
    refine (CC _).mono ?_
    rintro e u ⟨rfl, rfl⟩
    go_wp2_with fail
    go_ret
    exact ⟨rfl, B⟩
/-- deeds that came in -/
def DsRaw (w : World) (a : Option Addr) (ds : List Dd) : Prop := ds = [] ∨ ∃ g o, a = some ⟨g, o, none⟩ ∧ ∀ i, i < ds.length → ∃ (A : Option Addr) (cz : Nat), (w.cell? ⟨g, o + i * 6, none⟩ = some (.int .i64 (ds.getD i dd0).k) ∧ w.cell? ⟨g, o + i * 6 + 1, none⟩ = some (.int .i64 (ds.getD i dd0).o) ∧ w.cell? ⟨g, o + i * 6 + 2, none⟩ = some (.int .i64 (ds.getD i dd0).t) ∧ w.cell? ⟨g, o + i * 6 + 3, none⟩ = some (.int .i64 (ds.getD i dd0).n) ∧ w.cell? ⟨g, o + i * 6 + 4, none⟩ = some (.int .i64 (ds.getD i dd0).d) ∧ w.cell? ⟨g, o + i * 6 + 5, none⟩ = some (.slice A (ds.getD i dd0).zs.length cz)) ∧ IsInts w A (ds.getD i dd0).zs ∧ (ds.getD i dd0).zs.length ≤ cz
theorem dsRaw_is {w : World} {a : Option Addr} {ds : List Dd} (h : DsRaw w a ds) (hn : ∀ i, i < ds.length → (ds.getD i dd0).zs.length ≤ 1048576) : IsDds w a ds := by
  rcases h with h | ⟨g, o, ha, hc⟩
  · exact .inl h
  · refine .inr ⟨g, o, ha, fun i hi => ?_⟩
    obtain ⟨A, cz, ⟨c0, c1, c2, c3, c4, c5⟩, hI, hz⟩ := hc i hi
    exact ⟨A, cz, c0, c1, c2, c3, c4, c5, hI, hn i hi, hz⟩
set_option maxRecDepth 100000 in
set_option maxHeartbeats 4000000 in
/-- laws.szDeedS -/
theorem lszDs (a : Option Addr) (cap : Nat) (ds : List Dd) (left : Int) (w : World) (h : DsRaw w a ds) (h0 : 0 ≤ left) (h1 : left ≤ 1048576) (hn : ds.length ≤ 9223372036854775807) (hr : ∀ i, i < ds.length → (ds.getD i dd0).zs.length ≤ 9223372036854775807) :
    Calls Try.prog 29 #[.slice a ds.length cap, .int .i64 left] w fun e w' => e = .returned (.int .i64 (szSS left (zss ds))) ∧ Below w.heap.size w w' := by
  have wz : IntKind.i64.wrap (left - (ds.length : Int)) = left - (ds.length : Int) := by rw [IntKind.wrap_i64]; omega
  have B := Below.refl w.heap.size w
  by_cases c : left - (ds.length : Int) < 0
  · have e0 : decide (left - (ds.length : Int) < 0) = true := decide_eq_true c
    have H : Hid (szSS left (zss ds) = -1) := by show szSS left (zss ds) = -1; unfold szSS; rw [zss_len, if_pos c]
    clear c h hr
    go_enter Try.func29, Try.ntmps29
    go_wp2_with fail
    go_ret
    exact ⟨ret_z H.out.symm, B⟩
  · have e0 : decide (left - (ds.length : Int) < 0) = false := decide_eq_false c
    have H : Hid (szSS left (zss ds) = szL (left - (ds.length : Int)) (zss ds)) := by show szSS left (zss ds) = _; unfold szSS; rw [zss_len, if_neg c]
    have b0 : 0 ≤ left - (ds.length : Int) := by omega
    have b1 : left - (ds.length : Int) ≤ 1048576 := by omega
    have HC := Lib.hid h
    have HR := Lib.hid hr
    clear c h hr
    go_enter Try.func29, Try.ntmps29
    go_wp2_with fail
    clear wz e0
    generalize left - (ds.length : Int) = L0 at *
    go_loopw [1, 5] (fun l i wr => ∃ (k : Nat) (L : Int), k ≤ ds.length ∧ i = .int .i64 k ∧ l = .int .i64 L ∧ 0 ≤ L ∧ L ≤ 1048576 ∧ Hid (szL L ((zss ds).drop k) = szL L0 (zss ds)) ∧ Below w.heap.size w wr) (fun _ i _ => ds.length - (intOf i).toNat)
    case atStart => exact ⟨0, L0, Nat.zero_le _, rfl, rfl, b0, b1, (by show szL L0 ((zss ds).drop 0) = _; rfl), B⟩
    case round =>
      clear b0 b1 B
      obtain ⟨k, L, hk, rfl, rfl, b0, b1, HS, B⟩ := hrel
      by_cases hlt : k < ds.length
      · rcases HC.out with hd0 | ⟨g, o, rfl, hg⟩
        · rw [hd0] at hlt; exact absurd hlt (Nat.not_lt_zero _)
        obtain ⟨A, cz, hcs, _, _⟩ := hg k hlt
        have kp : ∀ q v, w.cell? ⟨g, q, none⟩ = some v → wr.cell? ⟨g, q, none⟩ = some v := fun q v c => (B.cell (p := ⟨g, q, none⟩) (World.block_lt_of_cell? w _ c)).trans c
        replace hcs := (show _ ∧ _ ∧ _ ∧ _ ∧ _ ∧ _ from ⟨kp _ _ hcs.1, kp _ _ hcs.2.1, kp _ _ hcs.2.2.1, kp _ _ hcs.2.2.2.1, kp _ _ hcs.2.2.2.2.1, kp _ _ hcs.2.2.2.2.2⟩)
        obtain ⟨c0, c1, c2, c3, c4, c5⟩ := hcs
        have hl := HR.out k hlt
        have ha := szL_at (rs := zss ds) (k := k) (by rw [zss_len]; exact hlt) L
        rw [zss_get] at ha
        have hk0 : (0 : Int) ≤ (k : Int) := by omega
        have hk1 : (k : Int) < (ds.length : Int) := by omega
        clear kp
        generalize ds.getD k dd0 = x at c0 c1 c2 c3 c4 c5 hl ha
        have CC := lszDd A cz x L wr b0 b1 hl
        by_cases c : L - (x.zs.length : Int) < 0
        · rw [if_pos c] at CC ha
          have HA : Hid (szSS left (zss ds) = -1) := by show szSS left (zss ds) = -1; rw [H.out, ← HS.out, ha]
          clear ha c
          have HCC := Lib.hid CC
          clear CC
          go_wp2_with fail
          refine HCC.out.mono ?_
          rintro e w1 ⟨rfl, C⟩
          replace B := bel_tr B C
          clear C
          go_wp2_with fail
          go_ret
          exact ⟨ret_z HA.out.symm, B⟩
        · rw [if_neg c] at CC ha
          have HA : Hid (szL (L - (x.zs.length : Int)) ((zss ds).drop (k + 1)) = szL L0 (zss ds)) := by show szL (L - (x.zs.length : Int)) ((zss ds).drop (k + 1)) = szL L0 (zss ds); rw [← HS.out, ha]
          have q0 : 0 ≤ L - (x.zs.length : Int) := by omega
          have q1 : L - (x.zs.length : Int) ≤ 1048576 := by omega
          have e0 : decide (L - (x.zs.length : Int) < 0) = false := decide_eq_false c
          have HCC := Lib.hid CC
          clear ha c HS CC
          generalize L - (x.zs.length : Int) = L' at *
          go_wp2_with fail
          refine HCC.out.mono ?_
          rintro e w1 ⟨rfl, C⟩
          replace B := bel_tr B C
          clear C
          go_wp2_with fail
          go_roundw
          case rel => exact ⟨k + 1, L', by omega, by go_num, rfl, q0, q1, HA, B⟩
          case measure => simp [intOf]; omega
      · obtain rfl : k = ds.length := by omega
        have HA : Hid (szSS left (zss ds) = L) := by
          show szSS left (zss ds) = L
          rw [H.out, ← HS.out, ← zss_len, List.drop_length]; rfl
        go_wp2_with fail
        go_ret
        exact ⟨ret_z HA.out.symm, B⟩
/-- what toDeed leaves -/
def OutDd (w : World) (x : Dd) (e : Ending) (w' : World) : Prop := ∃ g : Nat, e = .returned (.agg #[.int .i64 x.k, .int .i64 x.o, .int .i64 x.t, .int .i64 x.n, .int .i64 x.d, .slice (some ⟨g, 0, none⟩) x.zs.length x.zs.length]) ∧ w.heap.size ≤ g ∧ Row w' g x.zs ∧ Below w.heap.size w w'
set_option maxRecDepth 100000 in
set_option maxHeartbeats 6000000 in
/-- laws.toDeed -/
theorem ltoDd (A : Option Addr) (cz : Nat) (x : Dd) (w : World) (h : IsInts w A x.zs) (hn : x.zs.length ≤ 1048576) :
    Calls Try.prog 81 #[.agg #[.int .i64 x.k, .int .i64 x.o, .int .i64 x.t, .int .i64 x.n, .int .i64 x.d, .slice A x.zs.length cz]] w (OutDd w x) := by
  obtain ⟨k, o, t, n, d, zs⟩ := x
  dsimp only at h hn ⊢
  have HI := Lib.hid (fun W (hW : Below w.heap.size w W) => ints_below h hW)
  clear h
  go_enter Try.func81, Try.ntmps81
  have KA := ((Blk.new w 110 #[.int .i64 k, .int .i64 o, .int .i64 t, .int .i64 n, .int .i64 d, .slice A zs.length cz]).alloc (.cells #[.int .i64 0, .int .i64 0, .int .i64 0, .int .i64 0, .int .i64 0, .slice none 0 0] 113)).alloc (.cells #[.int .i64 0, .int .i64 0, .int .i64 0, .int .i64 0, .int .i64 0, .slice none 0 0] 113)
  have KR : Blk (((w.alloc (.cells #[.int .i64 k, .int .i64 o, .int .i64 t, .int .i64 n, .int .i64 d, .slice A zs.length cz] 110)).alloc (.cells #[.int .i64 0, .int .i64 0, .int .i64 0, .int .i64 0, .int .i64 0, .slice none 0 0] 113)).alloc (.cells #[.int .i64 0, .int .i64 0, .int .i64 0, .int .i64 0, .int .i64 0, .slice none 0 0] 113)) (w.heap.size + 1) 113 #[.int .i64 0, .int .i64 0, .int .i64 0, .int .i64 0, .int .i64 0, .slice none 0 0] := by
    have := (Blk.new (w.alloc (.cells #[.int .i64 k, .int .i64 o, .int .i64 t, .int .i64 n, .int .i64 d, .slice A zs.length cz] 110)) 113 #[.int .i64 0, .int .i64 0, .int .i64 0, .int .i64 0, .int .i64 0, .slice none 0 0]).alloc (.cells #[.int .i64 0, .int .i64 0, .int .i64 0, .int .i64 0, .int .i64 0, .slice none 0 0] 113)
    rw [World.size_alloc] at this; exact this
  have KO : Blk (((w.alloc (.cells #[.int .i64 k, .int .i64 o, .int .i64 t, .int .i64 n, .int .i64 d, .slice A zs.length cz] 110)).alloc (.cells #[.int .i64 0, .int .i64 0, .int .i64 0, .int .i64 0, .int .i64 0, .slice none 0 0] 113)).alloc (.cells #[.int .i64 0, .int .i64 0, .int .i64 0, .int .i64 0, .int .i64 0, .slice none 0 0] 113)) (w.heap.size + 1 + 1) 113 #[.int .i64 0, .int .i64 0, .int .i64 0, .int .i64 0, .int .i64 0, .slice none 0 0] := by
    have := Blk.new ((w.alloc (.cells #[.int .i64 k, .int .i64 o, .int .i64 t, .int .i64 n, .int .i64 d, .slice A zs.length cz] 110)).alloc (.cells #[.int .i64 0, .int .i64 0, .int .i64 0, .int .i64 0, .int .i64 0, .slice none 0 0] 113)) 113 #[.int .i64 0, .int .i64 0, .int .i64 0, .int .i64 0, .int .i64 0, .slice none 0 0]
    rw [World.size_alloc, World.size_alloc] at this; exact this
  have B : Below w.heap.size w (((w.alloc (.cells #[.int .i64 k, .int .i64 o, .int .i64 t, .int .i64 n, .int .i64 d, .slice A zs.length cz] 110)).alloc (.cells #[.int .i64 0, .int .i64 0, .int .i64 0, .int .i64 0, .int .i64 0, .slice none 0 0] 113)).alloc (.cells #[.int .i64 0, .int .i64 0, .int .i64 0, .int .i64 0, .int .i64 0, .slice none 0 0] 113)) := by go_grown
  have HS0 : Hid (Blk (((w.alloc (.cells #[.int .i64 k, .int .i64 o, .int .i64 t, .int .i64 n, .int .i64 d, .slice A zs.length cz] 110)).alloc (.cells #[.int .i64 0, .int .i64 0, .int .i64 0, .int .i64 0, .int .i64 0, .slice none 0 0] 113)).alloc (.cells #[.int .i64 0, .int .i64 0, .int .i64 0, .int .i64 0, .int .i64 0, .slice none 0 0] 113)) (w.heap.size) 110 #[.int .i64 k, .int .i64 o, .int .i64 t, .int .i64 n, .int .i64 d, .slice A zs.length cz] ∧ Blk (((w.alloc (.cells #[.int .i64 k, .int .i64 o, .int .i64 t, .int .i64 n, .int .i64 d, .slice A zs.length cz] 110)).alloc (.cells #[.int .i64 0, .int .i64 0, .int .i64 0, .int .i64 0, .int .i64 0, .slice none 0 0] 113)).alloc (.cells #[.int .i64 0, .int .i64 0, .int .i64 0, .int .i64 0, .int .i64 0, .slice none 0 0] 113)) (w.heap.size + 1) 113 #[.int .i64 0, .int .i64 0, .int .i64 0, .int .i64 0, .int .i64 0, .slice none 0 0] ∧ Blk (((w.alloc (.cells #[.int .i64 k, .int .i64 o, .int .i64 t, .int .i64 n, .int .i64 d, .slice A zs.length cz] 110)).alloc (.cells #[.int .i64 0, .int .i64 0, .int .i64 0, .int .i64 0, .int .i64 0, .slice none 0 0] 113)).alloc (.cells #[.int .i64 0, .int .i64 0, .int .i64 0, .int .i64 0, .int .i64 0, .slice none 0 0] 113)) (w.heap.size + 1 + 1) 113 #[.int .i64 0, .int .i64 0, .int .i64 0, .int .i64 0, .int .i64 0, .slice none 0 0] ∧ Below w.heap.size w (((w.alloc (.cells #[.int .i64 k, .int .i64 o, .int .i64 t, .int .i64 n, .int .i64 d, .slice A zs.length cz] 110)).alloc (.cells #[.int .i64 0, .int .i64 0, .int .i64 0, .int .i64 0, .int .i64 0, .slice none 0 0] 113)).alloc (.cells #[.int .i64 0, .int .i64 0, .int .i64 0, .int .i64 0, .int .i64 0, .slice none 0 0] 113))) := ⟨KA, KR, KO, B⟩
  clear KA KR KO B
  go_wp2_with (first | (show wpList _ _ _ _ _ (((w.alloc (.cells #[.int .i64 k, .int .i64 o, .int .i64 t, .int .i64 n, .int .i64 d, .slice A zs.length cz] 110)).alloc (.cells #[.int .i64 0, .int .i64 0, .int .i64 0, .int .i64 0, .int .i64 0, .slice none 0 0] 113)).alloc (.cells #[.int .i64 0, .int .i64 0, .int .i64 0, .int .i64 0, .int .i64 0, .slice none 0 0] 113)); generalize ((w.alloc (.cells #[.int .i64 k, .int .i64 o, .int .i64 t, .int .i64 n, .int .i64 d, .slice A zs.length cz] 110)).alloc (.cells #[.int .i64 0, .int .i64 0, .int .i64 0, .int .i64 0, .int .i64 0, .slice none 0 0] 113)).alloc (.cells #[.int .i64 0, .int .i64 0, .int .i64 0, .int .i64 0, .int .i64 0, .slice none 0 0] 113) = u0 at HS0 ⊢; obtain ⟨KA, KR, KO, B⟩ := HS0.out; clear HS0; have fz := KO.frozen 0; have HS1 : Hid (Blk (World.setCell u0 ⟨w.heap.size + 1 + 1, 0, none⟩ (.int .i64 k)) (w.heap.size) 110 #[.int .i64 k, .int .i64 o, .int .i64 t, .int .i64 n, .int .i64 d, .slice A zs.length cz] ∧ Blk (World.setCell u0 ⟨w.heap.size + 1 + 1, 0, none⟩ (.int .i64 k)) (w.heap.size + 1) 113 #[.int .i64 0, .int .i64 0, .int .i64 0, .int .i64 0, .int .i64 0, .slice none 0 0] ∧ Blk (World.setCell u0 ⟨w.heap.size + 1 + 1, 0, none⟩ (.int .i64 k)) (w.heap.size + 1 + 1) 113 #[.int .i64 k, .int .i64 0, .int .i64 0, .int .i64 0, .int .i64 0, .slice none 0 0] ∧ Below w.heap.size w (World.setCell u0 ⟨w.heap.size + 1 + 1, 0, none⟩ (.int .i64 k))) := ⟨KA.far (p := ⟨w.heap.size + 1 + 1, 0, none⟩) (by show w.heap.size ≠ w.heap.size + 1 + 1; omega) (.int .i64 k), KR.far (p := ⟨w.heap.size + 1 + 1, 0, none⟩) (by show w.heap.size + 1 ≠ w.heap.size + 1 + 1; omega) (.int .i64 k), (by have q := KO.set_ 0 (.int .i64 k); simp only [List.setIfInBounds_toArray, List.set_cons_zero, List.set_cons_succ] at q; exact q), B.setCell (p := ⟨w.heap.size + 1 + 1, 0, none⟩) (by show w.heap.size ≤ w.heap.size + 1 + 1; omega) (.int .i64 k)⟩; obtain ⟨qA_0, qA_1, qA_2, qA_3, qA_4, qA_5⟩ := cells6 KA; obtain ⟨qR_0, qR_1, qR_2, qR_3, qR_4, qR_5⟩ := cells6 KR; obtain ⟨qO_0, qO_1, qO_2, qO_3, qO_4, qO_5⟩ := cells6 KO; clear KA KR KO B) | (show wpList _ _ _ _ _ (World.setCell u0 _ _); clear fz; clear qA_0 qA_1 qA_2 qA_3 qA_4 qA_5 qR_0 qR_1 qR_2 qR_3 qR_4 qR_5 qO_0 qO_1 qO_2 qO_3 qO_4 qO_5; generalize World.setCell u0 ⟨w.heap.size + 1 + 1, 0, none⟩ (.int .i64 k) = y1s at HS1 ⊢; obtain ⟨KA, KR, KO, B⟩ := HS1.out; clear HS1; have fz := KO.frozen 1; have HS2 : Hid (Blk (World.setCell y1s ⟨w.heap.size + 1 + 1, 1, none⟩ (.int .i64 o)) (w.heap.size) 110 #[.int .i64 k, .int .i64 o, .int .i64 t, .int .i64 n, .int .i64 d, .slice A zs.length cz] ∧ Blk (World.setCell y1s ⟨w.heap.size + 1 + 1, 1, none⟩ (.int .i64 o)) (w.heap.size + 1) 113 #[.int .i64 0, .int .i64 0, .int .i64 0, .int .i64 0, .int .i64 0, .slice none 0 0] ∧ Blk (World.setCell y1s ⟨w.heap.size + 1 + 1, 1, none⟩ (.int .i64 o)) (w.heap.size + 1 + 1) 113 #[.int .i64 k, .int .i64 o, .int .i64 0, .int .i64 0, .int .i64 0, .slice none 0 0] ∧ Below w.heap.size w (World.setCell y1s ⟨w.heap.size + 1 + 1, 1, none⟩ (.int .i64 o))) := ⟨KA.far (p := ⟨w.heap.size + 1 + 1, 1, none⟩) (by show w.heap.size ≠ w.heap.size + 1 + 1; omega) (.int .i64 o), KR.far (p := ⟨w.heap.size + 1 + 1, 1, none⟩) (by show w.heap.size + 1 ≠ w.heap.size + 1 + 1; omega) (.int .i64 o), (by have q := KO.set_ 1 (.int .i64 o); simp only [List.setIfInBounds_toArray, List.set_cons_zero, List.set_cons_succ] at q; exact q), B.setCell (p := ⟨w.heap.size + 1 + 1, 1, none⟩) (by show w.heap.size ≤ w.heap.size + 1 + 1; omega) (.int .i64 o)⟩; obtain ⟨qA_0, qA_1, qA_2, qA_3, qA_4, qA_5⟩ := cells6 KA; obtain ⟨qR_0, qR_1, qR_2, qR_3, qR_4, qR_5⟩ := cells6 KR; obtain ⟨qO_0, qO_1, qO_2, qO_3, qO_4, qO_5⟩ := cells6 KO; clear KA KR KO B) | (show wpList _ _ _ _ _ (World.setCell y1s _ _); clear fz; clear qA_0 qA_1 qA_2 qA_3 qA_4 qA_5 qR_0 qR_1 qR_2 qR_3 qR_4 qR_5 qO_0 qO_1 qO_2 qO_3 qO_4 qO_5; generalize World.setCell y1s ⟨w.heap.size + 1 + 1, 1, none⟩ (.int .i64 o) = y2s at HS2 ⊢; obtain ⟨KA, KR, KO, B⟩ := HS2.out; clear HS2; have fz := KO.frozen 2; have HS3 : Hid (Blk (World.setCell y2s ⟨w.heap.size + 1 + 1, 2, none⟩ (.int .i64 t)) (w.heap.size) 110 #[.int .i64 k, .int .i64 o, .int .i64 t, .int .i64 n, .int .i64 d, .slice A zs.length cz] ∧ Blk (World.setCell y2s ⟨w.heap.size + 1 + 1, 2, none⟩ (.int .i64 t)) (w.heap.size + 1) 113 #[.int .i64 0, .int .i64 0, .int .i64 0, .int .i64 0, .int .i64 0, .slice none 0 0] ∧ Blk (World.setCell y2s ⟨w.heap.size + 1 + 1, 2, none⟩ (.int .i64 t)) (w.heap.size + 1 + 1) 113 #[.int .i64 k, .int .i64 o, .int .i64 t, .int .i64 0, .int .i64 0, .slice none 0 0] ∧ Below w.heap.size w (World.setCell y2s ⟨w.heap.size + 1 + 1, 2, none⟩ (.int .i64 t))) := ⟨KA.far (p := ⟨w.heap.size + 1 + 1, 2, none⟩) (by show w.heap.size ≠ w.heap.size + 1 + 1; omega) (.int .i64 t), KR.far (p := ⟨w.heap.size + 1 + 1, 2, none⟩) (by show w.heap.size + 1 ≠ w.heap.size + 1 + 1; omega) (.int .i64 t), (by have q := KO.set_ 2 (.int .i64 t); simp only [List.setIfInBounds_toArray, List.set_cons_zero, List.set_cons_succ] at q; exact q), B.setCell (p := ⟨w.heap.size + 1 + 1, 2, none⟩) (by show w.heap.size ≤ w.heap.size + 1 + 1; omega) (.int .i64 t)⟩; obtain ⟨qA_0, qA_1, qA_2, qA_3, qA_4, qA_5⟩ := cells6 KA; obtain ⟨qR_0, qR_1, qR_2, qR_3, qR_4, qR_5⟩ := cells6 KR; obtain ⟨qO_0, qO_1, qO_2, qO_3, qO_4, qO_5⟩ := cells6 KO; clear KA KR KO B) | (show wpList _ _ _ _ _ (World.setCell y2s _ _); clear fz; clear qA_0 qA_1 qA_2 qA_3 qA_4 qA_5 qR_0 qR_1 qR_2 qR_3 qR_4 qR_5 qO_0 qO_1 qO_2 qO_3 qO_4 qO_5; generalize World.setCell y2s ⟨w.heap.size + 1 + 1, 2, none⟩ (.int .i64 t) = y3s at HS3 ⊢; obtain ⟨KA, KR, KO, B⟩ := HS3.out; clear HS3; obtain ⟨qA_0, qA_1, qA_2, qA_3, qA_4, qA_5⟩ := cells6 KA; obtain ⟨qR_0, qR_1, qR_2, qR_3, qR_4, qR_5⟩ := cells6 KR; obtain ⟨qO_0, qO_1, qO_2, qO_3, qO_4, qO_5⟩ := cells6 KO))
  refine (ltoFrac n d _).mono ?_
  rintro e u1 ⟨rfl, C⟩
  clear qA_0 qA_1 qA_2 qA_3 qA_4 qA_5 qR_0 qR_1 qR_2 qR_3 qR_4 qR_5 qO_0 qO_1 qO_2 qO_3 qO_4 qO_5
  replace KA := KA.next C
  replace KR := KR.next C
  replace KO := KO.next C
  replace B := bel_tr B C
  clear C
  have fz := KO.frozen 3
  have fz2 := KO.frozen 4
  have HS4 : Hid (Blk (World.setCell (World.setCell u1 ⟨w.heap.size + 1 + 1, 3, none⟩ (.int .i64 n)) ⟨w.heap.size + 1 + 1, 4, none⟩ (.int .i64 d)) (w.heap.size) 110 #[.int .i64 k, .int .i64 o, .int .i64 t, .int .i64 n, .int .i64 d, .slice A zs.length cz] ∧ Blk (World.setCell (World.setCell u1 ⟨w.heap.size + 1 + 1, 3, none⟩ (.int .i64 n)) ⟨w.heap.size + 1 + 1, 4, none⟩ (.int .i64 d)) (w.heap.size + 1) 113 #[.int .i64 0, .int .i64 0, .int .i64 0, .int .i64 0, .int .i64 0, .slice none 0 0] ∧ Blk (World.setCell (World.setCell u1 ⟨w.heap.size + 1 + 1, 3, none⟩ (.int .i64 n)) ⟨w.heap.size + 1 + 1, 4, none⟩ (.int .i64 d)) (w.heap.size + 1 + 1) 113 #[.int .i64 k, .int .i64 o, .int .i64 t, .int .i64 n, .int .i64 d, .slice none 0 0] ∧ Below w.heap.size w (World.setCell (World.setCell u1 ⟨w.heap.size + 1 + 1, 3, none⟩ (.int .i64 n)) ⟨w.heap.size + 1 + 1, 4, none⟩ (.int .i64 d))) := ⟨(KA.far (p := ⟨w.heap.size + 1 + 1, 3, none⟩) (by show w.heap.size ≠ w.heap.size + 1 + 1; omega) (.int .i64 n)).far (p := ⟨w.heap.size + 1 + 1, 4, none⟩) (by show w.heap.size ≠ w.heap.size + 1 + 1; omega) (.int .i64 d), (KR.far (p := ⟨w.heap.size + 1 + 1, 3, none⟩) (by show w.heap.size + 1 ≠ w.heap.size + 1 + 1; omega) (.int .i64 n)).far (p := ⟨w.heap.size + 1 + 1, 4, none⟩) (by show w.heap.size + 1 ≠ w.heap.size + 1 + 1; omega) (.int .i64 d), (by have q := (KO.set_ 3 (.int .i64 n)).set_ 4 (.int .i64 d); simp only [List.setIfInBounds_toArray, List.set_cons_zero, List.set_cons_succ] at q; exact q), (B.setCell (p := ⟨w.heap.size + 1 + 1, 3, none⟩) (by show w.heap.size ≤ w.heap.size + 1 + 1; omega) (.int .i64 n)).setCell (p := ⟨w.heap.size + 1 + 1, 4, none⟩) (by show w.heap.size ≤ w.heap.size + 1 + 1; omega) (.int .i64 d)⟩
  obtain ⟨qA_0, qA_1, qA_2, qA_3, qA_4, qA_5⟩ := cells6 KA
  obtain ⟨qR_0, qR_1, qR_2, qR_3, qR_4, qR_5⟩ := cells6 KR
  obtain ⟨qO_0, qO_1, qO_2, qO_3, qO_4, qO_5⟩ := cells6 KO
  clear KA KR KO B
  go_wp2_with (first | (show wpList _ _ _ _ _ (World.setCell (World.setCell u1 _ _) _ _); clear fz fz2; clear qA_0 qA_1 qA_2 qA_3 qA_4 qA_5 qR_0 qR_1 qR_2 qR_3 qR_4 qR_5 qO_0 qO_1 qO_2 qO_3 qO_4 qO_5; generalize World.setCell (World.setCell u1 ⟨w.heap.size + 1 + 1, 3, none⟩ (.int .i64 n)) ⟨w.heap.size + 1 + 1, 4, none⟩ (.int .i64 d) = y4s at HS4 ⊢; obtain ⟨KA, KR, KO, B⟩ := HS4.out; clear HS4; obtain ⟨qA_0, qA_1, qA_2, qA_3, qA_4, qA_5⟩ := cells6 KA; obtain ⟨qR_0, qR_1, qR_2, qR_3, qR_4, qR_5⟩ := cells6 KR; obtain ⟨qO_0, qO_1, qO_2, qO_3, qO_4, qO_5⟩ := cells6 KO))
  refine (ltoIntS A cz zs _ (HI.out _ B) hn).mono ?_
  rintro e u2 ⟨gz, rfl, lgz, Rz, C⟩
  clear qA_0 qA_1 qA_2 qA_3 qA_4 qA_5 qR_0 qR_1 qR_2 qR_3 qR_4 qR_5 qO_0 qO_1 qO_2 qO_3 qO_4 qO_5
  have lz : w.heap.size ≤ gz := (by have := B.size; omega)
  replace KA := KA.next C
  replace KR := KR.next C
  replace KO := KO.next C
  replace B := bel_tr B C
  clear C lgz
  have fz := KO.frozen 5
  have HS5 : Hid (Blk (World.setCell u2 ⟨w.heap.size + 1 + 1, 5, none⟩ (.slice (some ⟨gz, 0, none⟩) zs.length zs.length)) (w.heap.size) 110 #[.int .i64 k, .int .i64 o, .int .i64 t, .int .i64 n, .int .i64 d, .slice A zs.length cz] ∧ Blk (World.setCell u2 ⟨w.heap.size + 1 + 1, 5, none⟩ (.slice (some ⟨gz, 0, none⟩) zs.length zs.length)) (w.heap.size + 1) 113 #[.int .i64 0, .int .i64 0, .int .i64 0, .int .i64 0, .int .i64 0, .slice none 0 0] ∧ Blk (World.setCell u2 ⟨w.heap.size + 1 + 1, 5, none⟩ (.slice (some ⟨gz, 0, none⟩) zs.length zs.length)) (w.heap.size + 1 + 1) 113 #[.int .i64 k, .int .i64 o, .int .i64 t, .int .i64 n, .int .i64 d, .slice (some ⟨gz, 0, none⟩) zs.length zs.length] ∧ Row (World.setCell u2 ⟨w.heap.size + 1 + 1, 5, none⟩ (.slice (some ⟨gz, 0, none⟩) zs.length zs.length)) gz zs ∧ Below w.heap.size w (World.setCell u2 ⟨w.heap.size + 1 + 1, 5, none⟩ (.slice (some ⟨gz, 0, none⟩) zs.length zs.length))) := ⟨KA.far (p := ⟨w.heap.size + 1 + 1, 5, none⟩) (by show w.heap.size ≠ w.heap.size + 1 + 1; omega) (.slice (some ⟨gz, 0, none⟩) zs.length zs.length), KR.far (p := ⟨w.heap.size + 1 + 1, 5, none⟩) (by show w.heap.size + 1 ≠ w.heap.size + 1 + 1; omega) (.slice (some ⟨gz, 0, none⟩) zs.length zs.length), (by have q := KO.set_ 5 (.slice (some ⟨gz, 0, none⟩) zs.length zs.length); simp only [List.setIfInBounds_toArray, List.set_cons_zero, List.set_cons_succ] at q; exact q), rwS Rz KO (by decide) 5 (.slice (some ⟨gz, 0, none⟩) zs.length zs.length), B.setCell (p := ⟨w.heap.size + 1 + 1, 5, none⟩) (by show w.heap.size ≤ w.heap.size + 1 + 1; omega) (.slice (some ⟨gz, 0, none⟩) zs.length zs.length)⟩
  obtain ⟨qA_0, qA_1, qA_2, qA_3, qA_4, qA_5⟩ := cells6 KA
  obtain ⟨qR_0, qR_1, qR_2, qR_3, qR_4, qR_5⟩ := cells6 KR
  obtain ⟨qO_0, qO_1, qO_2, qO_3, qO_4, qO_5⟩ := cells6 KO
  clear KA KR KO Rz B
  go_wp2_with (first | (show wpList _ _ _ _ _ (World.setCell u2 _ _); clear fz; clear qA_0 qA_1 qA_2 qA_3 qA_4 qA_5 qR_0 qR_1 qR_2 qR_3 qR_4 qR_5 qO_0 qO_1 qO_2 qO_3 qO_4 qO_5; generalize World.setCell u2 ⟨w.heap.size + 1 + 1, 5, none⟩ (.slice (some ⟨gz, 0, none⟩) zs.length zs.length) = y5s at HS5 ⊢; obtain ⟨KA, KR, KO, Rz, B⟩ := HS5.out; clear HS5; have fr0 := KR.frozen 0; have fr1 := KR.frozen 1; have fr2 := KR.frozen 2; have fr3 := KR.frozen 3; have fr4 := KR.frozen 4; have fr5 := KR.frozen 5; have HF := Lib.hid (show Blk (y5s) (w.heap.size) 110 #[.int .i64 k, .int .i64 o, .int .i64 t, .int .i64 n, .int .i64 d, .slice A zs.length cz] ∧ Blk (y5s) (w.heap.size + 1) 113 #[.int .i64 0, .int .i64 0, .int .i64 0, .int .i64 0, .int .i64 0, .slice none 0 0] ∧ Blk (y5s) (w.heap.size + 1 + 1) 113 #[.int .i64 k, .int .i64 o, .int .i64 t, .int .i64 n, .int .i64 d, .slice (some ⟨gz, 0, none⟩) zs.length zs.length] ∧ Row (y5s) gz zs ∧ Below w.heap.size w (y5s) from ⟨KA, KR, KO, Rz, B⟩); obtain ⟨qA_0, qA_1, qA_2, qA_3, qA_4, qA_5⟩ := cells6 KA; obtain ⟨qR_0, qR_1, qR_2, qR_3, qR_4, qR_5⟩ := cells6 KR; obtain ⟨qO_0, qO_1, qO_2, qO_3, qO_4, qO_5⟩ := cells6 KO; clear KA KR KO Rz B))
  clear fr0 fr1 fr2 fr3 fr4 fr5
  clear qA_0 qA_1 qA_2 qA_3 qA_4 qA_5 qR_0 qR_1 qR_2 qR_3 qR_4 qR_5 qO_0 qO_1 qO_2 qO_3 qO_4 qO_5
  obtain ⟨KA, KR, KO, Rz, B⟩ := HF.out
  clear HF
  change bodyPost _ _ _ _ _ (sets6 y5s (w.heap.size + 1) (.int .i64 k) (.int .i64 o) (.int .i64 t) (.int .i64 n) (.int .i64 d) (.slice (some ⟨gz, 0, none⟩) zs.length zs.length))
  have KOLD := KR
  replace KR := sets6_blk (v0 := .int .i64 k) (v1 := .int .i64 o) (v2 := .int .i64 t) (v3 := .int .i64 n) (v4 := .int .i64 d) (v5 := .slice (some ⟨gz, 0, none⟩) zs.length zs.length) KR
  replace Rz := rwX6 (v0 := .int .i64 k) (v1 := .int .i64 o) (v2 := .int .i64 t) (v3 := .int .i64 n) (v4 := .int .i64 d) (v5 := .slice (some ⟨gz, 0, none⟩) zs.length zs.length) Rz KOLD (by decide)
  replace B := sets6_below (b := w.heap.size + 1) (v0 := .int .i64 k) (v1 := .int .i64 o) (v2 := .int .i64 t) (v3 := .int .i64 n) (v4 := .int .i64 d) (v5 := .slice (some ⟨gz, 0, none⟩) zs.length zs.length) B (by omega)
  clear KA
  clear KO
  clear KOLD
  generalize sets6 y5s (w.heap.size + 1) (.int .i64 k) (.int .i64 o) (.int .i64 t) (.int .i64 n) (.int .i64 d) (.slice (some ⟨gz, 0, none⟩) zs.length zs.length) = uf at KR Rz B ⊢
  obtain ⟨qR_0, qR_1, qR_2, qR_3, qR_4, qR_5⟩ := cells6 KR
  refine bodyPost_ret (v := .agg #[.int .i64 k, .int .i64 o, .int .i64 t, .int .i64 n, .int .i64 d, .slice (some ⟨gz, 0, none⟩) zs.length zs.length]) (by simp [results, Try.results81, go_sem, qR_0, qR_1, qR_2, qR_3, qR_4, qR_5]) rfl ⟨gz, rfl, lz, Rz, B⟩
end Go.Proofs.Ytgmmdpdlekpmfaa
namespace Go.Proofs.Ytgmmdpdlekpmfaa
open Go.ChangeShapes Go.WideShapes Go.RowKit Go.Deep
set_option linter.unusedSimpArgs false
set_option linter.unusedVariables false

theorem trod_intD {H : Type} {enc : TypeId × Value → H} {w : World} {base : Nat} {spare : Nat → Bool} {held : Bool} {fuel : Nat} {c : Value} {x : DataW H × List MemPlace} (h : DataW.trod enc Try.prog w base spare held fuel 3 [c] = some x) : ∃ z, c = .int .i64 z := by
  obtain ⟨z, e, _, _⟩ := DataW.trod_int Try.underlying3 h
  injection e with e
  exact ⟨z, e⟩
set_option maxRecDepth 100000 in
theorem open_ints1 {H : Type} {enc : TypeId × Value → H} {w : World} {base : Nat} {spare : Nat → Bool} {held : Bool} {fuel : Nat} {c : Value} {x : DataW H × List MemPlace} (h : DataW.trod enc Try.prog w base spare held fuel 105 [c] = some x) : ∃ (A : Option Addr) (cz : Nat) (zs : List Int), c = .slice A zs.length cz ∧ IsInts w A zs ∧ zs.length ≤ cz ∧ cz ≤ maxLen := by
  rcases open_ints Try.underlying105 Try.underlying3 (by kernel_rfl) h with ⟨hcs, _⟩ | ⟨a, len, cap, zs, hcs, _, hl, hm, hz, _, hcell, _⟩
  · injection hcs with hcs
    exact ⟨none, 0, [], hcs, .inl rfl, Nat.le_refl _, Nat.zero_le _⟩
  · injection hcs with hcs
    have hlz : len ≤ zs.length := by rw [hz]; split <;> omega
    have hlen : (zs.take len).length = len := by rw [List.length_take]; omega
    refine ⟨some a, cap, zs.take len, by rw [hlen]; exact hcs, ?_, by omega, hm⟩
    by_cases hL : len = 0
    · exact .inl (by rw [hL]; rfl)
    · obtain ⟨g, o, s⟩ := a
      have hs : s = none := by simpa [Addr.add] using World.cell?_spot (hcell 0 (by omega))
      subst hs
      refine .inr ⟨g, o, rfl, fun j hj => ?_⟩
      have hj' : j < len := by omega
      have := hcell j (by omega)
      rw [List.getD_eq_getElem?_getD, List.getElem?_take_of_lt hj', ← List.getD_eq_getElem?_getD]
      by_cases hj0 : j = 0
      · subst hj0; simpa [Addr.add] using this
      · simpa [Addr.add, hj0] using this
set_option maxRecDepth 100000 in
theorem open_deed {H : Type} {enc : TypeId × Value → H} {w : World} {base : Nat} {spare : Nat → Bool} {held : Bool} {fuel : Nat} {cs : List Value} {x : DataW H × List MemPlace} (h : DataW.trod enc Try.prog w base spare held fuel 110 cs = some x) : ∃ (A : Option Addr) (cz : Nat) (y : Dd), cs = [.int .i64 y.k, .int .i64 y.o, .int .i64 y.t, .int .i64 y.n, .int .i64 y.d, .slice A y.zs.length cz] ∧ IsInts w A y.zs ∧ y.zs.length ≤ cz ∧ cz ≤ maxLen := by
  obtain ⟨xs, n, _, _, hcl, hxl, hfs⟩ := DataW.trod_struct Try.underlying110 h
  have hC : Try.prog.cellsOf 110 = 6 := by kernel_rfl
  have hcl := hcl.trans hC
  have hxl : xs.length = 5 := hxl
  match xs, hxl, cs, hcl with
  | [y0, y1, y2, y3, y4], _, [c0, c1, c2, c3, c4, c5], _ =>
  have s1 : Try.prog.cellsOf 3 = 1 := by kernel_rfl
  have s2 : Try.prog.cellsOf 108 = 2 := by kernel_rfl
  have s3 : Try.prog.cellsOf 105 = 1 := by kernel_rfl
  have g0 : DataW.trod enc Try.prog w base spare held n 3 (([c0, c1, c2, c3, c4, c5].drop 0).take (Try.prog.cellsOf 3)) = some y0 := hfs 0 _ rfl
  rw [s1] at g0
  change DataW.trod enc Try.prog w base spare held n 3 [c0] = some y0 at g0
  have g1 : DataW.trod enc Try.prog w base spare held n 3 (([c0, c1, c2, c3, c4, c5].drop 1).take (Try.prog.cellsOf 3)) = some y1 := hfs 1 _ rfl
  rw [s1] at g1
  change DataW.trod enc Try.prog w base spare held n 3 [c1] = some y1 at g1
  have g2 : DataW.trod enc Try.prog w base spare held n 3 (([c0, c1, c2, c3, c4, c5].drop 2).take (Try.prog.cellsOf 3)) = some y2 := hfs 2 _ rfl
  rw [s1] at g2
  change DataW.trod enc Try.prog w base spare held n 3 [c2] = some y2 at g2
  have g3 : DataW.trod enc Try.prog w base spare held n 108 (([c0, c1, c2, c3, c4, c5].drop 3).take (Try.prog.cellsOf 108)) = some y3 := hfs 3 _ rfl
  rw [s2] at g3
  change DataW.trod enc Try.prog w base spare held n 108 [c3, c4] = some y3 at g3
  have g4 : DataW.trod enc Try.prog w base spare held n 105 (([c0, c1, c2, c3, c4, c5].drop 5).take (Try.prog.cellsOf 105)) = some y4 := hfs 4 _ rfl
  rw [s3] at g4
  change DataW.trod enc Try.prog w base spare held n 105 [c5] = some y4 at g4
  obtain ⟨k, e0⟩ := trod_intD g0
  obtain ⟨o, e1⟩ := trod_intD g1
  obtain ⟨t, e2⟩ := trod_intD g2
  obtain ⟨m, d, e3⟩ := open_frac g3
  obtain ⟨A, cz, zs, e4, i1, i2, i3⟩ := open_ints1 g4
  injection e3 with e3 e5
  injection e5 with e5
  subst e0 e1 e2 e3 e4 e5
  exact ⟨A, cz, ⟨k, o, t, m, d, zs⟩, rfl, i1, i2, i3⟩
/-- deeds that came in -/
def DdIn (w : World) (a : Option Addr) (len cap : Nat) (ds : List Dd) : Prop := ds.length = len ∧ DsRaw w a ds ∧ len ≤ cap ∧ cap ≤ maxLen ∧ ∀ i, i < ds.length → (ds.getD i dd0).zs.length ≤ maxLen
set_option maxRecDepth 100000 in
theorem open_dds {H : Type} {enc : TypeId × Value → H} {w : World} {base : Nat} {spare : Nat → Bool} {held : Bool} {fuel : Nat} {a : Option Addr} {len cap : Nat} {x : DataW H × List MemPlace} (h : DataW.trod enc Try.prog w base spare held fuel 59 [.slice a len cap] = some x) : ∃ ds, DdIn w a len cap ds := by
  rcases open_slice Try.underlying59 h with ⟨hcs, _⟩ | ⟨ad, l, c, m, n', D, Pl, hcs, hb, hl, hm, hmm, hx, hi⟩
  · simp at hcs
    obtain ⟨rfl, rfl, rfl⟩ := hcs
    exact ⟨[], rfl, .inl rfl, Nat.le_refl _, Nat.zero_le _, fun i hi => absurd hi (Nat.not_lt_zero _)⟩
  · simp at hcs
    obtain ⟨rfl, rfl, rfl⟩ := hcs
    have hc : Try.prog.cellsOf 110 = 6 := by kernel_rfl
    have hmn : len ≤ m := by rw [hmm]; split <;> omega
    have each : ∀ i, i < len → ∃ y : Dd, ∃ (A : Option Addr) (cz : Nat), (w.cell? (ad.add (i * 6)) = some (.int .i64 y.k) ∧ w.cell? (ad.add (i * 6 + 1)) = some (.int .i64 y.o) ∧ w.cell? (ad.add (i * 6 + 2)) = some (.int .i64 y.t) ∧ w.cell? (ad.add (i * 6 + 3)) = some (.int .i64 y.n) ∧ w.cell? (ad.add (i * 6 + 4)) = some (.int .i64 y.d) ∧ w.cell? (ad.add (i * 6 + 5)) = some (.slice A y.zs.length cz)) ∧ IsInts w A y.zs ∧ y.zs.length ≤ cz ∧ cz ≤ maxLen := fun i hin => by
      obtain ⟨cs', h1, h2⟩ := hi i (by omega)
      obtain ⟨A, cz, y, rfl, j1, j2, j3⟩ := open_deed h2
      rw [hc] at h1
      obtain ⟨_, _, hat⟩ := World.cells?_some h1
      have a0 := hat 0 (by omega)
      have a1 := hat 1 (by omega)
      have a2 := hat 2 (by omega)
      have a3 := hat 3 (by omega)
      have a4 := hat 4 (by omega)
      have a5 := hat 5 (by omega)
      rw [add_add] at a0 a1 a2 a3 a4 a5
      exact ⟨y, A, cz, ⟨a0, a1, a2, a3, a4, a5⟩, j1, j2, j3⟩
    obtain ⟨f, hf⟩ : ∃ f : Nat → Dd, ∀ i, i < len → ∃ (A : Option Addr) (cz : Nat), (w.cell? (ad.add (i * 6)) = some (.int .i64 (f i).k) ∧ w.cell? (ad.add (i * 6 + 1)) = some (.int .i64 (f i).o) ∧ w.cell? (ad.add (i * 6 + 2)) = some (.int .i64 (f i).t) ∧ w.cell? (ad.add (i * 6 + 3)) = some (.int .i64 (f i).n) ∧ w.cell? (ad.add (i * 6 + 4)) = some (.int .i64 (f i).d) ∧ w.cell? (ad.add (i * 6 + 5)) = some (.slice A (f i).zs.length cz)) ∧ IsInts w A (f i).zs ∧ (f i).zs.length ≤ cz ∧ cz ≤ maxLen :=
      ⟨fun i => if hh : i < len then Classical.choose (each i hh) else dd0, fun i hh => by simp only [dif_pos hh]; exact Classical.choose_spec (each i hh)⟩
    have e : ∀ i, i < len → ((List.range len).map f).getD i dd0 = f i := fun i hin => by
      rw [List.getD_eq_getElem?_getD, List.getElem?_map, List.getElem?_range hin]; rfl
    refine ⟨(List.range len).map f, by simp, ?_, hl, hm, fun i hin => ?_⟩
    · by_cases h0 : len = 0
      · subst h0; exact .inl rfl
      · obtain ⟨b, off, spot⟩ := ad
        obtain ⟨_, _, ⟨hsp, _⟩, _⟩ := hf 0 (by omega)
        have hspot : spot = none := by simpa [Addr.add] using World.cell?_spot hsp
        subst hspot
        refine .inr ⟨b, off, rfl, fun i hin => ?_⟩
        have hin' : i < len := by simpa using hin
        have ao : ∀ j, (⟨b, off, none⟩ : Addr).add j = ⟨b, off + j, none⟩ := fun j => by
          unfold Addr.add
          by_cases hj : j = 0
          · subst hj; simp
          · simp [hj]
        obtain ⟨A, cz, ⟨q0, q1, q2, q3, q4, q5⟩, j1, j2, _⟩ := hf i hin'
        rw [ao] at q0 q1 q2 q3 q4 q5
        rw [e i hin']
        exact ⟨A, cz, ⟨q0, by rw [Nat.add_assoc]; exact q1, by rw [Nat.add_assoc]; exact q2, by rw [Nat.add_assoc]; exact q3, by rw [Nat.add_assoc]; exact q4, by rw [Nat.add_assoc]; exact q5⟩, j1, j2⟩
    · have hin' : i < len := by simpa using hin
      rw [e i hin']
      obtain ⟨_, _, _, _, j2, j3⟩ := hf i hin'
      exact Nat.le_trans j2 j3
end Go.Proofs.Ytgmmdpdlekpmfaa
