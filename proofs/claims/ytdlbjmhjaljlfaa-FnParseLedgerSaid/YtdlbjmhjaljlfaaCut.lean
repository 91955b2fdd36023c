/- Texts cut at a byte, fractions as texts. No condition but those stated. -/
import Derived.Test.YtdlbjmhjaljlfaaDec
import Derived.Test.YtdlbjmhjaljlfaaPlain
namespace Go.Proofs.Ytdlbjmhjaljlfaa

/-- the text of some bytes -/
def txt (l : List UInt8) : ByteArray := ⟨l.toArray⟩
def digs : ByteArray := { data := #[48, 49, 50, 51, 52, 53, 54, 55, 56, 57] }
theorem digs_ext (d : Nat) (h : d < 10) : ({ data := #[48, 49, 50, 51, 52, 53, 54, 55, 56, 57] } : ByteArray).extract d (d + 1) = txt [ofDig d] := by
  rcases d with _ | _ | _ | _ | _ | _ | _ | _ | _ | _ | d
  all_goals first | omega | rfl
theorem txt_size (l : List UInt8) : (txt l).size = l.length := by show l.toArray.size = _; simp
theorem txt_list (l : List UInt8) : (txt l).data.toList = l := rfl
theorem txt_app (a b : List UInt8) : txt a ++ txt b = txt (a ++ b) := ByteArray.mk_append_mk a b
theorem txt_of (s : ByteArray) : txt s.data.toList = s := by
  obtain ⟨⟨l⟩⟩ := s; rfl
theorem txt_inj {a b : List UInt8} (h : txt a = txt b) : a = b := by
  have := congrArg (fun s : ByteArray => s.data.toList) h
  exact this
/-- what decimal has written so far -/
def DecI (n k : Nat) (l : List UInt8) : Prop := l.length ≤ (decL n).length ∧ ((k < 10 ∧ l = decL n) ∨ (10 ≤ k ∧ decL (k / 10) ++ l = decL n))
theorem decI_start (n : Nat) : DecI n n [ofDig (n % 10)] := by
  refine ⟨List.length_pos_iff.2 (dec_ne n), ?_⟩
  by_cases h : n < 10
  · left; exact ⟨h, by rw [decL_lt h, Nat.mod_eq_of_lt h]⟩
  · right; exact ⟨by omega, (decL_ge h).symm⟩
theorem decI_step {n k : Nat} {l : List UInt8} (h : DecI n k l) (hk : 10 ≤ k) : DecI n (k / 10) (ofDig (k / 10 % 10) :: l) := by
  obtain ⟨_, h | ⟨_, h⟩⟩ := h
  · omega
  · have e : ∀ x : List UInt8, x ++ ofDig (k / 10 % 10) :: l = (x ++ [ofDig (k / 10 % 10)]) ++ l := fun x => by simp
    by_cases h1 : k / 10 < 10
    · have e2 : decL n = ofDig (k / 10 % 10) :: l := by rw [← h, decL_lt h1, Nat.mod_eq_of_lt h1]; rfl
      exact ⟨by rw [e2]; exact Nat.le_refl _, .inl ⟨h1, e2.symm⟩⟩
    · have e2 : decL (k / 10 / 10) ++ ofDig (k / 10 % 10) :: l = decL n := by rw [e, ← decL_ge h1, h]
      exact ⟨by rw [← e2]; simp, .inr ⟨by omega, e2⟩⟩

/-- byte k of a text, as a number -/
def bt (s : ByteArray) (k : Nat) : Int := ((s.data.toList.getD k 0).toNat : Int)
theorem bt_len (s : ByteArray) : s.data.toList.length = s.size := by simp
theorem get_bt (s : ByteArray) : ∀ (n : Nat) (h : n < s.size), ((s[n]'h).toNat : Int) = bt s n := fun n h => by
  unfold bt
  rw [List.getD_eq_getElem?_getD, List.getElem?_eq_getElem (by rw [bt_len]; exact h)]
  rfl
theorem bt_bd (s : ByteArray) (k : Nat) : 0 ≤ bt s k ∧ bt s k ≤ 255 := by
  unfold bt
  have := (s.data.toList.getD k 0).toNat_lt
  omega
/-- the place of the first byte c, -1 if there is none -/
def idxI (c : Nat) (s : ByteArray) : Int := if s.data.toList.findIdx (fun b => b.toNat == c) < s.size then (s.data.toList.findIdx (fun b => b.toNat == c) : Int) else -1
theorem find_is {c : Nat} {s : ByteArray} {k : Nat} (hk : k < s.size) (h : bt s k = c) (hb : ∀ j, j < k → bt s j ≠ c) : s.data.toList.findIdx (fun b => b.toNat == c) = k := by
  have hk' : k < s.data.toList.length := by rw [bt_len]; exact hk
  rw [List.findIdx_eq hk']
  refine ⟨?_, fun j hj => ?_⟩
  · unfold bt at h
    rw [List.getD_eq_getElem?_getD, List.getElem?_eq_getElem hk'] at h
    simp at h ⊢; omega
  · have := hb j hj
    unfold bt at this
    rw [List.getD_eq_getElem?_getD, List.getElem?_eq_getElem (by omega)] at this
    simp at this ⊢; omega
theorem find_none {c : Nat} {s : ByteArray} (hb : ∀ j, j < s.size → bt s j ≠ c) : s.data.toList.findIdx (fun b => b.toNat == c) = s.size := by
  rw [← bt_len, List.findIdx_eq_length]
  intro b hm
  obtain ⟨i, hi, rfl⟩ := List.getElem_of_mem hm
  have := hb i (by rw [← bt_len]; exact hi)
  unfold bt at this
  rw [List.getD_eq_getElem?_getD, List.getElem?_eq_getElem hi] at this
  simp at this ⊢; omega
theorem idx_is {c : Nat} {s : ByteArray} {k : Nat} (hk : k < s.size) (h : bt s k = c) (hb : ∀ j, j < k → bt s j ≠ c) : idxI c s = k := by
  unfold idxI; rw [find_is hk h hb, if_pos hk]
theorem idx_none {c : Nat} {s : ByteArray} (hb : ∀ j, j < s.size → bt s j ≠ c) : idxI c s = -1 := by
  unfold idxI; rw [find_none hb, if_neg (by omega)]
/-- a text has byte c or not -/
theorem idx_or (c : Nat) (s : ByteArray) : (∃ k, k < s.size ∧ bt s k = c ∧ (∀ j, j < k → bt s j ≠ c) ∧ idxI c s = k) ∨ ((∀ j, j < s.size → bt s j ≠ c) ∧ idxI c s = -1) := by
  have key : ∀ n, n ≤ s.size → (∃ k, k < n ∧ bt s k = c ∧ ∀ j, j < k → bt s j ≠ c) ∨ ∀ j, j < n → bt s j ≠ c := by
    intro n
    induction n with
    | zero => intro _; right; intro j hj; omega
    | succ n ih =>
      intro hn
      rcases ih (by omega) with ⟨k, hk, h1, h2⟩ | h
      · exact .inl ⟨k, by omega, h1, h2⟩
      · by_cases hc : bt s n = c
        · exact .inl ⟨n, by omega, hc, h⟩
        · right; intro j hj
          by_cases e : j = n
          · subst e; exact hc
          · exact h j (by omega)
  rcases key s.size (Nat.le_refl _) with ⟨k, hk, h1, h2⟩ | h
  · exact .inl ⟨k, hk, h1, h2, idx_is hk h1 h2⟩
  · exact .inr ⟨h, idx_none h⟩

/-- the parts of the first k bytes between the bytes c, and where the last one begins -/
def cutTo (c : Int) (s : ByteArray) : Nat → List ByteArray × Nat
  | 0 => ([], 0)
  | k + 1 => if bt s k = c then ((cutTo c s k).1 ++ [s.extract (cutTo c s k).2 k], k + 1) else cutTo c s k
theorem cutTo_hit {c : Int} {s : ByteArray} {k : Nat} (h : bt s k = c) : cutTo c s (k + 1) = ((cutTo c s k).1 ++ [s.extract (cutTo c s k).2 k], k + 1) := by
  show (if _ then _ else _) = _; rw [if_pos h]
theorem cutTo_miss {c : Int} {s : ByteArray} {k : Nat} (h : ¬ bt s k = c) : cutTo c s (k + 1) = cutTo c s k := by
  show (if _ then _ else _) = _; rw [if_neg h]
theorem cutTo_bd (c : Int) (s : ByteArray) : ∀ k, (cutTo c s k).2 ≤ k ∧ (cutTo c s k).1.length ≤ k := by
  intro k
  induction k with
  | zero => exact ⟨Nat.le_refl _, Nat.le_refl _⟩
  | succ k ih =>
    by_cases h : bt s k = c
    · rw [cutTo_hit h]; simp; omega
    · rw [cutTo_miss h]; omega
/-- all parts -/
def cutS (c : Int) (s : ByteArray) : List ByteArray := (cutTo c s s.size).1 ++ [s.extract (cutTo c s s.size).2 s.size]
theorem cut_quiet {c : Int} {s : ByteArray} : ∀ (n k : Nat), (∀ j, k ≤ j → j < k + n → bt s j ≠ c) → cutTo c s (k + n) = cutTo c s k := by
  intro n
  induction n with
  | zero => intro k _; rfl
  | succ n ih =>
    intro k h
    rw [show k + (n + 1) = k + n + 1 by omega, cutTo_miss (h (k + n) (by omega) (by omega)), ih k (fun j h1 h2 => h j h1 (by omega))]
theorem cut_none {c : Int} {s : ByteArray} (h : ∀ j, j < s.size → bt s j ≠ c) : cutS c s = [s.extract 0 s.size] := by
  have := cut_quiet (c := c) (s := s) s.size 0 (fun j _ h2 => h j (by omega))
  unfold cutS
  rw [Nat.zero_add] at this
  rw [this]; rfl
theorem cut_at {c : Int} {s : ByteArray} {k : Nat} (h1 : bt s k = c) (h2 : ∀ j, j < k → bt s j ≠ c) : cutTo c s (k + 1) = ([s.extract 0 k], k + 1) := by
  have := cut_quiet (c := c) (s := s) k 0 (fun j _ h => h2 j (by omega))
  rw [Nat.zero_add] at this
  rw [cutTo_hit h1, this]; rfl
theorem cut_one {c : Int} {s : ByteArray} {k : Nat} (hk : k < s.size) (h1 : bt s k = c) (h2 : ∀ j, j < k → bt s j ≠ c) (h3 : ∀ j, k < j → j < s.size → bt s j ≠ c) : cutS c s = [s.extract 0 k, s.extract (k + 1) s.size] := by
  have := cut_quiet (c := c) (s := s) (s.size - (k + 1)) (k + 1) (fun j h h' => h3 j (by omega) (by omega))
  rw [show k + 1 + (s.size - (k + 1)) = s.size by omega, cut_at h1 h2] at this
  unfold cutS
  rw [this]; rfl
theorem cut_grows (c : Int) (s : ByteArray) : ∀ n k, (cutTo c s k).1.length ≤ (cutTo c s (k + n)).1.length := by
  intro n
  induction n with
  | zero => intro k; exact Nat.le_refl _
  | succ n ih =>
    intro k
    have := ih k
    rw [show k + (n + 1) = k + n + 1 by omega]
    by_cases h : bt s (k + n) = c
    · rw [cutTo_hit h]; simp; omega
    · rw [cutTo_miss h]; exact this
theorem cut_more {c : Int} {s : ByteArray} {k j : Nat} (h1 : bt s k = c) (h2 : ∀ j, j < k → bt s j ≠ c) (hj : k < j) (hjs : j < s.size) (h3 : bt s j = c) : 2 < (cutS c s).length := by
  have a := cut_grows c s (j - (k + 1)) (k + 1)
  rw [show k + 1 + (j - (k + 1)) = j by omega, cut_at h1 h2] at a
  have b : (cutTo c s (j + 1)).1.length = (cutTo c s j).1.length + 1 := by rw [cutTo_hit h3]; simp
  have d := cut_grows c s (s.size - (j + 1)) (j + 1)
  rw [show j + 1 + (s.size - (j + 1)) = s.size by omega] at d
  unfold cutS
  simp at a ⊢; omega

theorem ext_data (s : ByteArray) (a b : Nat) : (s.extract a b).data.toList = (s.data.toList.drop a).take (b - a) := by
  obtain ⟨⟨l⟩⟩ := s
  rw [ByteArray.extract_mk]
theorem bt_ext (s : ByteArray) (a b j : Nat) (h : a + j < b) : bt (s.extract a b) j = bt s (a + j) := by
  unfold bt
  rw [ext_data, List.getD_eq_getElem?_getD, List.getD_eq_getElem?_getD, List.getElem?_take_of_lt (by omega), List.getElem?_drop]
/-- the number of a text -/
def rdS (lim : Nat) (s : ByteArray) : Int := rdI lim s.data.toList
theorem rdS_bd (lim : Nat) (s : ByteArray) : -1 ≤ rdS lim s ∧ (rdS lim s < lim ∨ rdS lim s = -1) := by
  unfold rdS; have := rd_bd lim s.data.toList; omega
theorem rdS_not {lim : Nat} {s : ByteArray} {k : Nat} (hk : k < s.size) (h : bt s k < 48 ∨ 57 < bt s k) : rdS lim s = -1 := by
  unfold rdS
  refine dig_not (k := k) (by rw [bt_len]; exact hk) ?_ lim
  unfold bt at h; omega
theorem rd_lim (l : List UInt8) : rdI 10000000 l = rdI 1000000 l ∨ (1000000 ≤ rdI 10000000 l ∧ rdI 1000000 l = -1) := by
  unfold rdI
  by_cases h : l.all isDig = true ∧ l ≠ [] ∧ decL (valL l) = l
  · by_cases h1 : valL l < 1000000
    · left; rw [if_pos ⟨h.1, h.2.1, h.2.2, by omega⟩, if_pos ⟨h.1, h.2.1, h.2.2, h1⟩]
    · by_cases h2 : valL l < 10000000
      · right; rw [if_pos ⟨h.1, h.2.1, h.2.2, h2⟩, if_neg (fun c => h1 c.2.2.2)]; omega
      · left; rw [if_neg (fun c => h2 c.2.2.2), if_neg (fun c => h1 c.2.2.2)]
  · left; rw [if_neg (fun c => h ⟨c.1, c.2.1, c.2.2.1⟩), if_neg (fun c => h ⟨c.1, c.2.1, c.2.2.1⟩)]

/-- the number of the first k bytes -/
def vt (s : ByteArray) (k : Nat) : Nat := valL (s.data.toList.take k)
theorem vt_zero (s : ByteArray) : vt s 0 = 0 := by unfold vt; simp [valL]
theorem vt_succ {s : ByteArray} {k : Nat} (h : k < s.size) (h0 : 48 ≤ bt s k) : ((vt s (k + 1) : Nat) : Int) = (vt s k : Int) * 10 + (bt s k - 48) := by
  have := val_take s.data.toList k (by rw [bt_len]; exact h)
  unfold vt; unfold bt at h0 ⊢; omega
theorem vt_le {s : ByteArray} {k : Nat} (h : k ≤ s.size) : vt s k ≤ valL s.data.toList := val_le _ (by rw [bt_len]; exact h)
theorem vt_bd {s : ByteArray} {k : Nat} (h : k ≤ s.size) (hd : ∀ j, j < k → 48 ≤ bt s j ∧ bt s j ≤ 57) : vt s k < 10 ^ k :=
  val_bd k (by rw [bt_len]; exact h) (fun j hj => by have := hd j hj; unfold bt at this; omega)
theorem bt_head {s : ByteArray} (h : 0 < s.size) : s.data.toList.head? = some 48 ↔ bt s 0 = 48 := by
  unfold bt
  have hl : 0 < s.data.toList.length := by rw [bt_len]; exact h
  cases hc : s.data.toList with
  | nil => rw [hc] at hl; simp at hl
  | cons x t =>
    show some x = some 48 ↔ ((x.toNat : Nat) : Int) = 48
    constructor
    · intro e; injection e with e; subst e; rfl
    · intro e
      have : x = 48 := UInt8.toNat_inj.1 (by have e48 : (48 : UInt8).toNat = 48 := rfl; omega)
      rw [this]
theorem all_dig {s : ByteArray} (hd : ∀ j, j < s.size → 48 ≤ bt s j ∧ bt s j ≤ 57) : s.data.toList.all isDig = true :=
  dig_all (fun j hj => by have := hd j (by rw [← bt_len]; exact hj); unfold bt at this; omega)
theorem ne_nil {s : ByteArray} (h : 0 < s.size) : s.data.toList ≠ [] := by
  rw [← bt_len] at h; exact List.length_pos_iff.1 h
theorem rdS_empty (lim : Nat) {s : ByteArray} (h : s.size = 0) : rdS lim s = -1 :=
  rd_no (fun c => c.2.1 (List.length_eq_zero_iff.1 (by rw [bt_len]; exact h)))
theorem rdS_lead (lim : Nat) {s : ByteArray} (h : 1 < s.size) (h0 : bt s 0 = 48) : rdS lim s = -1 := by
  refine rd_no (fun c => ?_)
  have := (dec_iff c.2.1 c.1).1 c.2.2.1
  rw [bt_len] at this
  rcases this with h1 | h1
  · omega
  · exact h1 ((bt_head (by omega)).2 h0)
theorem rdS_long {s : ByteArray} (h : 7 < s.size) : rdS 10000000 s = -1 := by
  refine rd_no (fun c => ?_)
  have := dec_len 6 (valL s.data.toList) c.2.2.2
  rw [c.2.2.1, bt_len] at this
  omega
theorem rdS_big {lim : Nat} {s : ByteArray} {k : Nat} (h : k ≤ s.size) (hv : lim ≤ vt s k) : rdS lim s = -1 := by
  refine rd_no (fun c => ?_)
  have := vt_le h
  omega
theorem rdS_full {lim : Nat} {s : ByteArray} (h : 0 < s.size) (hd : ∀ j, j < s.size → 48 ≤ bt s j ∧ bt s j ≤ 57) (h0 : s.size = 1 ∨ bt s 0 ≠ 48) (hv : vt s s.size < lim) : rdS lim s = (vt s s.size : Int) := by
  have e : vt s s.size = valL s.data.toList := by unfold vt; rw [← bt_len, List.take_length]
  rw [e] at hv ⊢
  refine rd_yes (all_dig hd) (ne_nil h) ((dec_iff (ne_nil h) (all_dig hd)).2 ?_) hv
  rw [bt_len]
  rcases h0 with h0 | h0
  · exact .inl h0
  · exact .inr (fun c => h0 ((bt_head h).1 c))
/-- as the model reads: by the text of the number that it has read -/
theorem rdS_text {lim : Nat} {s : ByteArray} (h : 0 < s.size) (hd : ∀ j, j < s.size → 48 ≤ bt s j ∧ bt s j ≤ 57) (hv : vt s s.size < lim) :
    rdS lim s = if s.toList == (txt (decL (vt s s.size))).toList then (vt s s.size : Int) else -1 := by
  have e : vt s s.size = valL s.data.toList := by unfold vt; rw [← bt_len, List.take_length]
  rw [ByteArray.toList_eq, ByteArray.toList_eq, txt_list]
  rw [e] at hv ⊢
  split
  · next c => exact rd_yes (all_dig hd) (ne_nil h) (beq_iff_eq.1 c).symm hv
  · next c => exact rd_no (fun d => c (beq_iff_eq.2 d.2.2.1.symm))

/-- ParseFrac: whether there is one, and its numbers -/
def pnum (s : ByteArray) : Int := rdS 1000000 (s.extract 0 (idxI 47 s).toNat)
def pden (s : ByteArray) : Int := rdS 1000000 (s.extract ((idxI 47 s).toNat + 1) s.size)
def pok (s : ByteArray) : Bool := decide (0 ≤ idxI 47 s) && Wsh.vfB (pnum s) (pden s)
theorem vf_lim (a b : ByteArray) : Wsh.vfB (rdS 10000000 a) (rdS 10000000 b) = Wsh.vfB (rdS 1000000 a) (rdS 1000000 b) ∧ (Wsh.vfB (rdS 1000000 a) (rdS 1000000 b) = true → rdS 10000000 a = rdS 1000000 a ∧ rdS 10000000 b = rdS 1000000 b) := by
  have h1 := rd_lim a.data.toList
  have h2 := rd_lim b.data.toList
  unfold rdS
  rcases h1 with h1 | ⟨h1, h1'⟩
  · rcases h2 with h2 | ⟨h2, h2'⟩
    · rw [h1, h2]; exact ⟨rfl, fun _ => ⟨rfl, rfl⟩⟩
    · refine ⟨?_, fun h => ?_⟩
      · rw [Bool.eq_iff_iff, Wsh.vfB_iff, Wsh.vfB_iff]; constructor <;> intro h <;> omega
      · rw [Wsh.vfB_iff] at h; omega
  · refine ⟨?_, fun h => ?_⟩
    · rw [Bool.eq_iff_iff, Wsh.vfB_iff, Wsh.vfB_iff]; constructor <;> intro h <;> omega
    · rw [Wsh.vfB_iff] at h; omega
/-- the text of a fraction -/
def frT (n d : Int) : ByteArray := txt (decL n.toNat ++ 47 :: decL d.toNat)
/-- what was read is written back -/
theorem fr_back {s : ByteArray} (h : pok s = true) : frT (pnum s) (pden s) = s := by
  unfold pok at h
  rw [Bool.and_eq_true, decide_eq_true_eq, Wsh.vfB_iff] at h
  obtain ⟨h0, h1, h2, h3, h4, _⟩ := h
  rcases idx_or 47 s with ⟨k, hk, hb, _, hi⟩ | ⟨_, hi⟩
  · have e1 : (idxI 47 s).toNat = k := by rw [hi]; rfl
    have a := rd_back (lim := 1000000) (l := (s.extract 0 k).data.toList) (by unfold pnum at h3; rw [e1] at h3; exact h3)
    have b := rd_back (lim := 1000000) (l := (s.extract (k + 1) s.size).data.toList) (by unfold pden at h1; rw [e1] at h1; exact Int.le_trans (by omega) h1)
    unfold frT pnum pden
    rw [e1]
    unfold rdS
    rw [a.1, b.1, ext_data, ext_data]
    conv => rhs; rw [← txt_of s]
    congr 1
    have hk' : k < s.data.toList.length := by rw [bt_len]; exact hk
    have hm : (47 : UInt8) = s.data.toList[k] := by
      unfold bt at hb
      rw [List.getD_eq_getElem?_getD, List.getElem?_eq_getElem hk'] at hb
      apply UInt8.toNat_inj.1
      have hb' : ((s.data.toList[k]).toNat : Int) = ((47 : Nat) : Int) := hb
      have e47 : (47 : UInt8).toNat = 47 := rfl
      omega
    rw [List.drop_zero, Nat.sub_zero, hm, List.take_of_length_le (l := s.data.toList.drop (k + 1)) (by rw [List.length_drop, bt_len]; omega), ← List.drop_eq_getElem_cons hk', List.take_append_drop]
  · omega
theorem dig_ne {n j : Nat} (h : j < (decL n).length) : ((decL n)[j]).toNat ≠ 47 := by
  have := List.all_eq_true.1 (dig_dec n) _ (List.getElem_mem h)
  rw [isDig_iff] at this; omega
theorem frT_list (n d : Int) : (frT n d).data.toList = decL n.toNat ++ 47 :: decL d.toNat := rfl
theorem frT_size (n d : Int) : (frT n d).size = (decL n.toNat).length + 1 + (decL d.toNat).length := by
  rw [← bt_len, frT_list]; simp; omega
/-- what is written is read back -/
theorem fr_read {n d : Int} (h : Wsh.vfB n d = true) : pok (frT n d) = true ∧ pnum (frT n d) = n ∧ pden (frT n d) = d := by
  have h' := (Wsh.vfB_iff n d).1 h
  obtain ⟨h1, h2, h3, h4, _⟩ := h'
  have hs := frT_size n d
  have hi : idxI 47 (frT n d) = (decL n.toNat).length := by
    refine idx_is (by omega) ?_ (fun j hj => ?_)
    · unfold bt; rw [frT_list, List.getD_eq_getElem?_getD, List.getElem?_append_right (Nat.le_refl _)]; simp
    · unfold bt; rw [frT_list, List.getD_eq_getElem?_getD, List.getElem?_append_left hj, List.getElem?_eq_getElem hj]
      have := dig_ne hj
      simp; omega
  have e1 : (idxI 47 (frT n d)).toNat = (decL n.toNat).length := by rw [hi]; rfl
  have a : pnum (frT n d) = n := by
    unfold pnum rdS
    rw [e1, ext_data, frT_list, List.drop_zero, Nat.sub_zero, List.take_left, rd_dec (by omega)]; omega
  have b : pden (frT n d) = d := by
    unfold pden rdS
    rw [e1, ext_data, frT_list, List.drop_append, List.drop_eq_nil_of_le (by omega), List.nil_append, show (decL n.toNat).length + 1 - (decL n.toNat).length = 1 by omega]
    show rdI _ (List.take _ (decL d.toNat)) = d
    rw [List.take_of_length_le (by omega), rd_dec (by omega)]; omega
  refine ⟨?_, a, b⟩
  unfold pok
  rw [a, b, h, hi, decide_eq_true (by omega)]; rfl
end Go.Proofs.Ytdlbjmhjaljlfaa
