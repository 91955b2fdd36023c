/- Texts of ledgers that are read. No condition but those stated. -/
import Derived.Test.YtdlbjmhjaljlfaaLgtP
namespace Go.Proofs.Ytdlbjmhjaljlfaa

/-- the lines of a text that end -/
def lnA (s : ByteArray) : List ByteArray := (cutTo 10 s s.size).1
/-- the two words of a line -/
def wA (l : ByteArray) : ByteArray := l.extract 0 (idxI 32 l).toNat
def wB (l : ByteArray) : ByteArray := l.extract ((idxI 32 l).toNat + 1) l.size
def hokB (l : ByteArray) : Bool := decide (0 ≤ idxI 32 l) && pok (wB l)
def hdS (lim : Nat) (l : ByteArray) : Hd := (rdS lim (wA l), pnum (wB l), pden (wB l))
def plL (s : ByteArray) : List Hd := (lnA s).map (hdS 1000000)
/-- whether a text is one of a ledger -/
def plB (s : ByteArray) : Bool := decide ((cutTo 10 s s.size).2 = s.size) && (lnA s).all hokB && vlR (plL s)
theorem cut_pre (c : Int) (s : ByteArray) : ∀ n k, ∃ Q, (cutTo c s (k + n)).1 = (cutTo c s k).1 ++ Q := by
  intro n
  induction n with
  | zero => intro k; exact ⟨[], by simp⟩
  | succ n ih =>
    intro k
    obtain ⟨Q, h⟩ := ih k
    rw [show k + (n + 1) = k + n + 1 by omega]
    by_cases e : bt s (k + n) = c
    · rw [cutTo_hit e, h]; exact ⟨Q ++ [s.extract (cutTo c s (k + n)).2 (k + n)], by simp⟩
    · rw [cutTo_miss e]; exact ⟨Q, h⟩
theorem cut_pre_all {c : Int} {s : ByteArray} {k : Nat} (h : k ≤ s.size) : ∃ Q, (cutTo c s s.size).1 = (cutTo c s k).1 ++ Q := by
  have := cut_pre c s (s.size - k) k
  rw [show k + (s.size - k) = s.size by omega] at this
  exact this
/-- a line is read -/
theorem cut_hit {c : Int} {s : ByteArray} {p e : Nat} {P : List ByteArray} (h : cutTo c s p = (P, p)) (h1 : bt s (p + e) = c) (h2 : ∀ j, p ≤ j → j < p + e → bt s j ≠ c) : cutTo c s (p + e + 1) = (P ++ [s.extract p (p + e)], p + e + 1) := by
  rw [cutTo_hit h1, cut_quiet e p h2, h]
theorem pl_no1 {s : ByteArray} {p : Nat} {P : List ByteArray} (h : cutTo 10 s p = (P, p)) (hp : p < s.size) (h2 : ∀ j, p ≤ j → j < s.size → bt s j ≠ 10) : plB s = false := by
  have := cut_quiet (c := 10) (s := s) (s.size - p) p (fun j a b => h2 j a (by omega))
  rw [show p + (s.size - p) = s.size by omega, h] at this
  unfold plB
  rw [this, decide_eq_false (by show ¬ p = s.size; omega)]; rfl
theorem pl_no2 {s : ByteArray} {p : Nat} (hp : p ≤ s.size) (h : 12 < (cutTo 10 s p).1.length) : plB s = false := by
  obtain ⟨Q, hQ⟩ := cut_pre_all (c := 10) hp
  cases e : plB s with
  | false => rfl
  | true =>
    unfold plB at e
    simp only [Bool.and_eq_true] at e
    have := vl_len e.2
    unfold plL lnA at this
    rw [hQ] at this
    simp at this; omega
theorem pl_no3 {s : ByteArray} {p : Nat} {l : ByteArray} (hp : p ≤ s.size) (hl : l ∈ (cutTo 10 s p).1) (h : hokB l = false) : plB s = false := by
  obtain ⟨Q, hQ⟩ := cut_pre_all (c := 10) hp
  cases e : plB s with
  | false => rfl
  | true =>
    unfold plB at e
    simp only [Bool.and_eq_true] at e
    have := List.all_eq_true.1 e.1.2 l (by unfold lnA; rw [hQ]; exact List.mem_append.2 (.inl hl))
    rw [h] at this; cases this
theorem rd_two (l : ByteArray) : rdS 10000000 l = rdS 1000000 l ∨ (1000000 ≤ rdS 10000000 l ∧ rdS 1000000 l = -1) := rd_lim l.data.toList
theorem hd_two (P : List ByteArray) : vlR (P.map (hdS 10000000)) = vlR (P.map (hdS 1000000)) ∧ (vlR (P.map (hdS 1000000)) = true → P.map (hdS 10000000) = P.map (hdS 1000000)) := by
  by_cases h : ∀ l ∈ P, rdS 10000000 (wA l) = rdS 1000000 (wA l)
  · have : P.map (hdS 10000000) = P.map (hdS 1000000) := List.map_congr_left (fun l hl => by unfold hdS; rw [h l hl])
    exact ⟨by rw [this], fun _ => this⟩
  · have : ∃ l, l ∈ P ∧ ¬ rdS 10000000 (wA l) = rdS 1000000 (wA l) := by
      apply Classical.byContradiction
      intro c
      exact h (fun l hl => Classical.byContradiction fun d => c ⟨l, hl, d⟩)
    obtain ⟨l, hl, hd⟩ := this
    obtain ⟨k, hk, rfl⟩ := List.getElem_of_mem hl
    rcases rd_two (wA P[k]) with e | ⟨e1, e2⟩
    · exact absurd e hd
    · have no : ∀ lim, (rdS lim (wA P[k]) = -1 ∨ 1000000 ≤ rdS lim (wA P[k])) → vlR (P.map (hdS lim)) = false := fun lim c => by
        cases e : vlR (P.map (hdS lim)) with
        | false => rfl
        | true =>
          have hk2 : k < (P.map (hdS lim)).length := by simpa using hk
          obtain ⟨a, b, _⟩ := vl_at e hk2
          rw [getD_lt _ hk2, List.getElem_map] at a b
          unfold hdS at a b
          dsimp only at a b
          omega
      rw [no 10000000 (.inr e1), no 1000000 (.inl e2)]
      exact ⟨rfl, fun c => by cases c⟩
theorem pl_end {s : ByteArray} {P : List ByteArray} (h : cutTo 10 s s.size = (P, s.size)) (hP : ∀ l ∈ P, hokB l = true) : plB s = vlR (P.map (hdS 1000000)) ∧ plL s = P.map (hdS 1000000) := by
  have e : plL s = P.map (hdS 1000000) := by unfold plL lnA; rw [h]
  refine ⟨?_, e⟩
  unfold plB
  rw [e]
  unfold lnA
  rw [h, decide_eq_true rfl, List.all_eq_true.2 hP]; rfl
/-- bytes of what is left -/
theorem bt_rest {s : ByteArray} {p j : Nat} (h : p + j < s.size) : bt (s.extract p s.size) j = bt s (p + j) := bt_ext s p s.size j h
theorem rest_size (s : ByteArray) (p : Nat) : (s.extract p s.size).size = s.size - p := by simp
theorem rest_idx (s : ByteArray) (p : Nat) : (∃ e, p + e < s.size ∧ bt s (p + e) = 10 ∧ (∀ j, p ≤ j → j < p + e → bt s j ≠ 10) ∧ idxI 10 (s.extract p s.size) = e) ∨ ((∀ j, p ≤ j → j < s.size → bt s j ≠ 10) ∧ idxI 10 (s.extract p s.size) = -1) := by
  rcases idx_or 10 (s.extract p s.size) with ⟨k, h1, h2, h3, h4⟩ | ⟨h1, h2⟩
  · rw [rest_size s p] at h1
    rw [bt_rest (by omega)] at h2
    refine .inl ⟨k, by omega, h2, fun j a b => ?_, h4⟩
    have := h3 (j - p) (by omega)
    rw [bt_rest (by omega), show p + (j - p) = j by omega] at this
    exact this
  · refine .inr ⟨fun j a b => ?_, h2⟩
    have := h1 (j - p) (by rw [rest_size s p]; omega)
    rw [bt_rest (by omega), show p + (j - p) = j by omega] at this
    exact this
theorem ext_ext1 (s : ByteArray) {p e : Nat} (h : p + e ≤ s.size) : (s.extract p s.size).extract 0 e = s.extract p (p + e) := by
  rw [ByteArray.extract_extract, show min (p + e) s.size = p + e by omega]; rfl
theorem ext_ext2 (s : ByteArray) (p e : Nat) : (s.extract p s.size).extract (e + 1) (s.size - p) = s.extract (p + e + 1) s.size := by
  rw [ByteArray.extract_extract]; congr 1; omega
/-- a line of two words, as the model asks for -/
theorem hok_two {l : ByteArray} (h : hokB l = true) : cutS 32 l = [wA l, wB l] := by
  unfold hokB at h
  rw [Bool.and_eq_true, decide_eq_true_eq] at h
  obtain ⟨h0, hp⟩ := h
  rcases idx_or 32 l with ⟨k, h1, h2, h3, h4⟩ | ⟨_, h2⟩
  · have e : (idxI 32 l).toNat = k := by rw [h4]; simp
    have hw : wB l = l.extract (k + 1) l.size := by unfold wB; rw [e]
    have hno : ∀ j, k < j → j < l.size → bt l j ≠ 32 := fun j a b c => by
      have hb : bt (wB l) (j - (k + 1)) = 32 := by rw [hw, bt_ext _ _ _ _ (by omega), show k + 1 + (j - (k + 1)) = j by omega]; exact c
      have hs : j - (k + 1) < (wB l).data.toList.length := by rw [bt_len, hw]; simp; omega
      have hm : (32 : UInt8) ∈ (wB l).data.toList := by
        have : (wB l).data.toList[j - (k + 1)] = 32 := by
          unfold bt at hb
          rw [List.getD_eq_getElem?_getD, List.getElem?_eq_getElem hs, Option.getD_some] at hb
          exact UInt8.toNat_inj.1 (by show _ = 32; omega)
        rw [← this]; exact List.getElem_mem _
      rw [← fr_back hp] at hm
      exact frT_no (by decide) _ _ hm
    have := cut_one (c := 32) h1 h2 h3 hno
    rw [this, hw]; unfold wA; rw [e]
  · omega
/-- a line that is not of two words is none -/
theorem hok_no {l : ByteArray} (h : (cutS 32 l).length ≠ 2) : hokB l = false := by
  cases e : hokB l with
  | false => rfl
  | true => rw [hok_two e] at h; simp at h
/-- a line of two words -/
theorem two_words {l A B : ByteArray} (h : cutS 32 l = [A, B]) : hokB l = pok B ∧ (pok B = true → hdS 1000000 l = (rdS 1000000 A, pnum B, pden B)) := by
  have key : wA l = A ∧ wB l = B ∧ 0 ≤ idxI 32 l := by
    rcases idx_or 32 l with ⟨k, h1, h2, h3, h4⟩ | ⟨h1, h2⟩
    · have e : (idxI 32 l).toNat = k := by rw [h4]; simp
      have hno : ∀ j, k < j → j < l.size → bt l j ≠ 32 := fun j a b c => by
        have := cut_more h2 h3 a b c
        rw [show ((32 : Nat) : Int) = 32 from rfl, h] at this; simp at this
      have := cut_one (c := 32) h1 h2 h3 hno
      rw [h] at this
      simp only [List.cons.injEq, and_true] at this
      unfold wA wB
      rw [e]
      exact ⟨this.1.symm, this.2.symm, by rw [h4]; omega⟩
    · have := cut_none h1
      rw [show ((32 : Nat) : Int) = 32 from rfl, h] at this; simp at this
  obtain ⟨a, b, c⟩ := key
  unfold hokB hdS
  rw [a, b, decide_eq_true c]
  exact ⟨rfl, fun _ => rfl⟩
end Go.Proofs.Ytdlbjmhjaljlfaa
