/- Texts that are cut and joined again. No condition but those stated. -/
import Derived.Test.YtdlbjmhjaljlfaaCut
namespace Go.Proofs.Ytdlbjmhjaljlfaa

/-- pieces with a byte between them -/
def joinL (c : UInt8) : List (List UInt8) → List UInt8
  | [] => []
  | [a] => a
  | a :: b :: r => a ++ c :: joinL c (b :: r)
theorem join_one (c : UInt8) (a : List UInt8) : joinL c [a] = a := rfl
theorem join_cons (c : UInt8) (a : List UInt8) {r : List (List UInt8)} (h : r ≠ []) : joinL c (a :: r) = a ++ c :: joinL c r := by
  cases r with
  | nil => exact absurd rfl h
  | cons b r => rfl
theorem join_snoc (c : UInt8) : ∀ (P : List (List UInt8)) (a : List UInt8), P ≠ [] → joinL c (P ++ [a]) = joinL c P ++ c :: a := by
  intro P
  induction P with
  | nil => intro a h; exact absurd rfl h
  | cons x t ih =>
    intro a _
    by_cases ht : t = []
    · subst ht; rfl
    · rw [List.cons_append, join_cons c x (by simp), join_cons c x ht, ih a ht]; simp
theorem join_last (c : UInt8) : ∀ (P : List (List UInt8)) (a b : List UInt8), joinL c (P ++ [a ++ b]) = joinL c (P ++ [a]) ++ b := by
  intro P
  induction P with
  | nil => intro a b; rfl
  | cons x t ih =>
    intro a b
    rw [List.cons_append, join_cons c x (by simp), List.cons_append, join_cons c x (by simp), ih a b]; simp
/-- what follows a first piece without the byte is known -/
theorem span_eq {c : UInt8} : ∀ {a b x y : List UInt8}, c ∉ a → c ∉ b → a ++ c :: x = b ++ c :: y → a = b ∧ x = y := by
  intro a
  induction a with
  | nil =>
    intro b x y _ hb h
    cases b with
    | nil => injection h with _ h; exact ⟨rfl, h⟩
    | cons z t => injection h with h1 _; exact absurd (by simp [h1]) hb
  | cons z t ih =>
    intro b x y ha hb h
    cases b with
    | nil => injection h with h1 _; exact absurd (by simp [h1]) ha
    | cons u s =>
      injection h with h1 h2
      obtain ⟨e1, e2⟩ := ih (fun m => ha (by simp [m])) (fun m => hb (by simp [m])) h2
      exact ⟨by rw [h1, e1], e2⟩
/-- pieces without the byte are known by what they are joined to -/
theorem join_inj {c : UInt8} : ∀ (P Q : List (List UInt8)), P ≠ [] → Q ≠ [] → (∀ a ∈ P, c ∉ a) → (∀ a ∈ Q, c ∉ a) → joinL c P = joinL c Q → P = Q := by
  intro P
  induction P with
  | nil => intro Q h; exact absurd rfl h
  | cons a t ih =>
    intro Q _ hq hP hQ h
    cases Q with
    | nil => exact absurd rfl hq
    | cons b s =>
      have ha := hP a (by simp)
      have hb := hQ b (by simp)
      by_cases ht : t = []
      · subst ht
        by_cases hs : s = []
        · subst hs; rw [join_one, join_one] at h; rw [h]
        · rw [join_one, join_cons c b hs] at h
          exact absurd (by rw [h]; simp) ha
      · by_cases hs : s = []
        · subst hs
          rw [join_one, join_cons c a ht] at h
          exact absurd (by rw [← h]; simp) hb
        · rw [join_cons c a ht, join_cons c b hs] at h
          obtain ⟨e1, e2⟩ := span_eq ha hb h
          rw [e1, ih s ht hs (fun x m => hP x (by simp [m])) (fun x m => hQ x (by simp [m])) e2]
/-- a part of a text, as bytes -/
def cutB (s : ByteArray) (a b : Nat) : List UInt8 := (s.extract a b).data.toList
theorem cutB_succ (s : ByteArray) {a k : Nat} (h : a ≤ k) (hk : k < s.size) : cutB s a (k + 1) = cutB s a k ++ [s.data.toList.getD k 0] := by
  unfold cutB
  rw [ext_data, ext_data, show k + 1 - a = (k - a) + 1 by omega]
  have hl : k - a < (s.data.toList.drop a).length := by rw [List.length_drop, bt_len]; omega
  rw [List.take_succ_eq_append_getElem hl, List.getElem_drop, List.getD_eq_getElem?_getD, List.getElem?_eq_getElem (by rw [bt_len]; exact hk)]
  simp [show a + (k - a) = k by omega]
theorem cutB_nil (s : ByteArray) (k : Nat) : cutB s k k = [] := by
  unfold cutB; rw [ext_data]; simp
theorem bt_is {s : ByteArray} {k : Nat} {c : UInt8} : bt s k = (c.toNat : Int) ↔ s.data.toList.getD k 0 = c := by
  unfold bt
  constructor
  · intro h; exact UInt8.toNat_inj.1 (by omega)
  · intro h; rw [h]
/-- the pieces so far, as bytes -/
def pcs (c : UInt8) (s : ByteArray) (k : Nat) : List (List UInt8) := (cutTo (c.toNat : Int) s k).1.map (fun x => x.data.toList) ++ [cutB s (cutTo (c.toNat : Int) s k).2 k]
theorem pcs_facts (c : UInt8) (s : ByteArray) : ∀ k, k ≤ s.size → joinL c (pcs c s k) = cutB s 0 k ∧ ∀ a ∈ pcs c s k, c ∉ a := by
  intro k
  induction k with
  | zero =>
    intro _
    show joinL c ([] ++ [cutB s 0 0]) = _ ∧ ∀ a ∈ ([] ++ [cutB s 0 0] : List (List UInt8)), c ∉ a
    refine ⟨rfl, fun a ha => ?_⟩
    rw [cutB_nil] at ha
    simp at ha; subst ha; simp
  | succ k ih =>
    intro hk
    obtain ⟨i1, i2⟩ := ih (by omega)
    have hb := (cutTo_bd (c.toNat : Int) s k).1
    have hz := cutB_succ s (a := 0) (Nat.zero_le k) (by omega)
    by_cases h : bt s k = (c.toNat : Int)
    · have e : pcs c s (k + 1) = pcs c s k ++ [[]] := by
        unfold pcs
        rw [cutTo_hit h]
        simp only [List.map_append, List.map_cons, List.map_nil, cutB_nil]
        rfl
      rw [e, join_snoc c _ _ (by unfold pcs; simp), i1, hz, bt_is.1 h]
      refine ⟨rfl, fun a ha => ?_⟩
      rcases List.mem_append.1 ha with ha | ha
      · exact i2 a ha
      · simp at ha; subst ha; simp
    · have e : pcs c s (k + 1) = (cutTo (c.toNat : Int) s k).1.map (fun x => x.data.toList) ++ [cutB s (cutTo (c.toNat : Int) s k).2 k ++ [s.data.toList.getD k 0]] := by
        unfold pcs
        rw [cutTo_miss h, cutB_succ s hb (by omega)]
      rw [e, join_last, hz, ← i1]
      refine ⟨rfl, fun a ha => ?_⟩
      rcases List.mem_append.1 ha with ha | ha
      · exact i2 a (by unfold pcs; simp [ha])
      · simp only [List.mem_singleton] at ha
        subst ha
        intro hc
        rcases List.mem_append.1 hc with hc | hc
        · exact i2 _ (by unfold pcs; simp) hc
        · simp only [List.mem_singleton] at hc
          exact h (bt_is.2 hc.symm)
/-- the pieces of a text, as bytes -/
theorem cutS_facts (c : UInt8) (s : ByteArray) : joinL c ((cutS (c.toNat : Int) s).map (fun x => x.data.toList)) = s.data.toList ∧ ∀ a ∈ cutS (c.toNat : Int) s, c ∉ a.data.toList := by
  obtain ⟨h1, h2⟩ := pcs_facts c s s.size (Nat.le_refl _)
  have e : (cutS (c.toNat : Int) s).map (fun x => x.data.toList) = pcs c s s.size := by
    unfold cutS pcs
    rw [List.map_append]; rfl
  have ez : cutB s 0 s.size = s.data.toList := by
    unfold cutB; rw [ext_data, List.drop_zero, Nat.sub_zero]; exact List.take_of_length_le (by rw [bt_len]; omega)
  refine ⟨by rw [e, h1, ez], fun a ha => h2 _ (by rw [← e]; exact List.mem_map_of_mem ha)⟩
theorem cutS_ne (c : Int) (s : ByteArray) : cutS c s ≠ [] := by unfold cutS; simp
theorem map_txt (Q : List ByteArray) : (Q.map (fun x => x.data.toList)).map txt = Q := by
  induction Q with
  | nil => rfl
  | cons x t ih => rw [List.map_cons, List.map_cons, ih, txt_of]
/-- pieces without the byte come back -/
theorem cut_join {c : UInt8} {P : List (List UInt8)} (hP : P ≠ []) (hc : ∀ a ∈ P, c ∉ a) : cutS (c.toNat : Int) (txt (joinL c P)) = P.map txt := by
  obtain ⟨h1, h2⟩ := cutS_facts c (txt (joinL c P))
  rw [txt_list] at h1
  have := join_inj _ P (by simp [cutS_ne]) hP (fun a ha => by obtain ⟨x, hx, rfl⟩ := List.mem_map.1 ha; exact h2 x hx) hc h1
  exact (map_txt _).symm.trans (congrArg (List.map txt) this)
/-- a text is its pieces joined -/
theorem join_cut (c : UInt8) (s : ByteArray) : txt (joinL c ((cutS (c.toNat : Int) s).map (fun x => x.data.toList))) = s := by rw [(cutS_facts c s).1, txt_of]
end Go.Proofs.Ytdlbjmhjaljlfaa
