/- Ledgers as lists of owners and shares, shares as rational numbers: what a share is set to, what is sold, inherited, joined. No condition but those stated. -/
import Derived.Test.YtdlbjmhjaljlfabPlain
namespace Go.Proofs.Ytdlbjmhjaljlfab

abbrev Led := List (Int × Rat)
/-- the share of an owner, 0 if there is none -/
def shareL : Led → Int → Rat
  | [], _ => 0
  | h :: t, o => if h.1 = o then h.2 else shareL t o
def Asc (L : Led) : Prop := L.Pairwise (fun a b => a.1 < b.1)
/-- shares are greater than 0 -/
def Pos (L : Led) : Prop := ∀ h ∈ L, 0 < h.2
/-- what the first holdings give when a share is set, and whether it has been placed -/
def setP (o : Int) (q : Rat) : Bool → Led → Led × Bool
  | d, [] => ([], d)
  | d, h :: t => ((if !d && decide (o ≤ h.1) then [(o, q)] else []) ++ (if h.1 ≠ o then [h] else []) ++ (setP o q (d || decide (o ≤ h.1)) t).1, (setP o q (d || decide (o ≤ h.1)) t).2)
/-- another share for an owner -/
def setL (L : Led) (o : Int) (q : Rat) : Led := (setP o q (decide (q = 0)) L).1 ++ (if (setP o q (decide (q = 0)) L).2 then [] else [(o, q)])
theorem setP_append (o : Int) (q : Rat) : ∀ (A B : Led) (d : Bool), setP o q d (A ++ B) = ((setP o q d A).1 ++ (setP o q (setP o q d A).2 B).1, (setP o q (setP o q d A).2 B).2) := by
  intro A
  induction A with
  | nil => intro B d; simp [setP]
  | cons h t ih => intro B d; simp only [List.cons_append, setP, ih, List.append_assoc]
/-- once it is placed, the holding of the owner is left out -/
theorem setP_done (o : Int) (q : Rat) : ∀ L : Led, setP o q true L = (L.filter (fun h => decide (h.1 ≠ o)), true) := by
  intro L
  induction L with
  | nil => rfl
  | cons h t ih =>
    simp only [setP, Bool.true_or, Bool.not_true, Bool.false_and, ih]
    by_cases e : h.1 = o
    · simp [e]
    · simp [e]
theorem share_none {L : Led} {o : Int} (h : ∀ x ∈ L, x.1 ≠ o) : shareL L o = 0 := by
  induction L with
  | nil => rfl
  | cons x t ih =>
    show (if x.1 = o then x.2 else shareL t o) = 0
    rw [if_neg (h x (by simp)), ih (fun y hy => h y (by simp [hy]))]
theorem share_mem {L : Led} {o : Int} (h : shareL L o ≠ 0) : ∃ x ∈ L, x.1 = o ∧ x.2 = shareL L o := by
  induction L with
  | nil => exact absurd rfl h
  | cons x t ih =>
    by_cases e : x.1 = o
    · exact ⟨x, by simp, e, by show x.2 = (if x.1 = o then x.2 else shareL t o); rw [if_pos e]⟩
    · have e2 : shareL (x :: t) o = shareL t o := by show (if x.1 = o then x.2 else shareL t o) = _; rw [if_neg e]
      rw [e2] at h ⊢
      obtain ⟨y, hy, h1, h2⟩ := ih h
      exact ⟨y, by simp [hy], h1, h2⟩
theorem share_of_mem {L : Led} (ha : Asc L) {x : Int × Rat} (hx : x ∈ L) : shareL L x.1 = x.2 := by
  induction L with
  | nil => simp at hx
  | cons y t ih =>
    have h1 := List.pairwise_cons.1 ha
    rcases List.mem_cons.1 hx with rfl | h
    · show (if x.1 = x.1 then x.2 else _) = _; rw [if_pos rfl]
    · have := h1.1 x h
      show (if y.1 = x.1 then y.2 else shareL t x.1) = _
      rw [if_neg (by omega), ih h1.2 h]
/-- owners of a list that ascends are known by it -/
theorem led_ext : ∀ (L M : Led), Asc L → Asc M → Pos L → Pos M → (∀ o, shareL L o = shareL M o) → L = M := by
  intro L
  induction L with
  | nil =>
    intro M _ hM _ pM h
    cases M with
    | nil => rfl
    | cons y t =>
      have h1 := h y.1
      rw [share_of_mem hM (by simp : y ∈ y :: t)] at h1
      have h2 := pM y (by simp)
      rw [← h1] at h2
      exact absurd (show (0 : Rat) < 0 from h2) (by decide)
  | cons x t ih =>
    intro M hL hM pL pM h
    have hx := h x.1
    rw [share_of_mem hL (by simp : x ∈ x :: t)] at hx
    have px := pL x (by simp)
    cases M with
    | nil => rw [show shareL [] x.1 = 0 from rfl] at hx; rw [hx] at px; exact absurd px (by decide)
    | cons y s =>
      have py := pM y (by simp)
      have hy := h y.1
      rw [share_of_mem hM (by simp : y ∈ y :: s)] at hy
      have a := List.pairwise_cons.1 hL
      have b := List.pairwise_cons.1 hM
      have e : x.1 = y.1 := by
        obtain ⟨u, hu, u1, _⟩ := share_mem (L := y :: s) (o := x.1) (by rw [← hx]; exact fun e => by rw [e] at px; exact absurd px (by decide))
        obtain ⟨v, hv, v1, _⟩ := share_mem (L := x :: t) (o := y.1) (by rw [hy]; exact fun e => by rw [e] at py; exact absurd py (by decide))
        rcases List.mem_cons.1 hu with rfl | hu
        · exact u1.symm
        · rcases List.mem_cons.1 hv with rfl | hv
          · exact v1
          · have := b.1 u hu; have := a.1 v hv; omega
      have e2 : x.2 = y.2 := by
        rw [hx, e]; exact share_of_mem hM (by simp)
      have exy : x = y := Prod.ext e e2
      subst exy
      congr 1
      refine ih s a.2 b.2 (fun z hz => pL z (by simp [hz])) (fun z hz => pM z (by simp [hz])) (fun o => ?_)
      by_cases eo : x.1 = o
      · subst eo
        rw [share_none (fun z hz => by have := a.1 z hz; omega), share_none (fun z hz => by have := b.1 z hz; omega)]
      · have := h o
        rw [show shareL (x :: t) o = shareL t o from by show (if x.1 = o then _ else _) = _; rw [if_neg eo], show shareL (x :: s) o = shareL s o from by show (if x.1 = o then _ else _) = _; rw [if_neg eo]] at this
        exact this
theorem share_filter (L : Led) (o p : Int) : shareL (L.filter (fun h => decide (h.1 ≠ o))) p = if p = o then 0 else shareL L p := by
  induction L with
  | nil => show (0 : Rat) = _; split <;> rfl
  | cons h t ih =>
    by_cases e : h.1 = o
    · rw [List.filter_cons_of_neg (by simp [e]), ih]
      split
      · rfl
      · next n => show _ = (if h.1 = p then h.2 else shareL t p); rw [if_neg (by omega)]
    · rw [List.filter_cons_of_pos (by simp [e])]
      show (if h.1 = p then h.2 else shareL _ p) = _
      rw [ih]
      by_cases ep : h.1 = p
      · rw [if_pos ep, if_neg (by omega)]; show _ = (if h.1 = p then h.2 else shareL t p); rw [if_pos ep]
      · rw [if_neg ep]
        split
        · rfl
        · show _ = (if h.1 = p then h.2 else shareL t p); rw [if_neg ep]
/-- as a list: the share is placed ahead of the first greater owner -/
theorem setL_zero (L : Led) (o : Int) : setL L o 0 = L.filter (fun h => decide (h.1 ≠ o)) := by
  unfold setL
  rw [show decide ((0 : Rat) = 0) = true from by decide, setP_done]; simp
def insL (o : Int) (q : Rat) : Led → Led
  | [] => [(o, q)]
  | h :: t => if o ≤ h.1 then (o, q) :: (h :: t).filter (fun h => decide (h.1 ≠ o)) else h :: insL o q t
theorem setL_ins {q : Rat} (hq : q ≠ 0) (L : Led) (o : Int) : setL L o q = insL o q L := by
  unfold setL
  rw [decide_eq_false hq]
  induction L with
  | nil => rfl
  | cons h t ih =>
    show _ = if o ≤ h.1 then _ else _
    by_cases e : o ≤ h.1
    · rw [if_pos e]
      simp only [setP, Bool.not_false, Bool.true_and, decide_eq_true e, Bool.false_or, setP_done]
      by_cases e2 : h.1 = o
      · simp [e2]
      · simp [e2]
    · rw [if_neg e]
      simp only [setP, Bool.not_false, Bool.true_and, decide_eq_false e, Bool.false_or]
      rw [← ih]
      have : h.1 ≠ o := by omega
      simp [this]
theorem ins_share {L : Led} (ha : Asc L) (o : Int) (q : Rat) (p : Int) : shareL (insL o q L) p = if p = o then q else shareL L p := by
  induction L with
  | nil =>
    show (if o = p then q else 0) = (if p = o then q else 0)
    by_cases e : p = o
    · rw [if_pos e, if_pos e.symm]
    · rw [if_neg e, if_neg (fun c => e c.symm)]
  | cons h t ih =>
    have h1 := List.pairwise_cons.1 ha
    show shareL (if o ≤ h.1 then _ else _) p = _
    by_cases e : o ≤ h.1
    · rw [if_pos e]
      show (if o = p then q else shareL _ p) = _
      rw [share_filter]
      by_cases ep : p = o
      · rw [if_pos ep.symm, if_pos ep]
      · rw [if_neg (fun c => ep c.symm), if_neg ep, if_neg ep]
    · rw [if_neg e]
      show (if h.1 = p then h.2 else shareL (insL o q t) p) = _
      rw [ih h1.2]
      by_cases ep : h.1 = p
      · rw [if_pos ep, if_neg (by omega)]; show _ = (if h.1 = p then h.2 else shareL t p); rw [if_pos ep]
      · rw [if_neg ep]
        split
        · rfl
        · show _ = (if h.1 = p then h.2 else shareL t p); rw [if_neg ep]
theorem share_set {L : Led} (ha : Asc L) (o : Int) (q : Rat) (p : Int) : shareL (setL L o q) p = if p = o then q else shareL L p := by
  by_cases hq : q = 0
  · subst hq; rw [setL_zero, share_filter]
  · rw [setL_ins hq, ins_share ha]
theorem asc_filter {L : Led} (ha : Asc L) (f : Int × Rat → Bool) : Asc (L.filter f) := List.Pairwise.filter f ha
theorem ins_mem {o : Int} {q : Rat} : ∀ {L : Led} {x : Int × Rat}, x ∈ insL o q L → x = (o, q) ∨ x ∈ L := by
  intro L
  induction L with
  | nil => intro x hx; left; simpa [insL] using hx
  | cons h t ih =>
    intro x hx
    unfold insL at hx
    split at hx
    · rcases List.mem_cons.1 hx with hx | hx
      · exact .inl hx
      · exact .inr (List.mem_filter.1 hx).1
    · rcases List.mem_cons.1 hx with hx | hx
      · exact .inr (by simp [hx])
      · rcases ih hx with h | h
        · exact .inl h
        · exact .inr (by simp [h])
theorem asc_ins {L : Led} (ha : Asc L) (o : Int) (q : Rat) : Asc (insL o q L) := by
  induction L with
  | nil => exact List.pairwise_singleton _ _
  | cons h t ih =>
    have h1 := List.pairwise_cons.1 ha
    unfold insL
    split
    · next e =>
      refine List.pairwise_cons.2 ⟨fun x hx => ?_, asc_filter ha _⟩
      have hm := List.mem_filter.1 hx
      have hne : x.1 ≠ o := by simpa using hm.2
      have hle : h.1 ≤ x.1 := by
        rcases List.mem_cons.1 hm.1 with rfl | hx
        · exact Int.le_refl _
        · exact Int.le_of_lt (h1.1 x hx)
      show o < x.1
      omega
    · next e =>
      refine List.pairwise_cons.2 ⟨fun x hx => ?_, ih h1.2⟩
      rcases ins_mem hx with rfl | hx
      · show h.1 < o; omega
      · exact h1.1 x hx
theorem asc_set {L : Led} (ha : Asc L) (o : Int) (q : Rat) : Asc (setL L o q) := by
  by_cases hq : q = 0
  · subst hq; rw [setL_zero]; exact asc_filter ha _
  · rw [setL_ins hq]; exact asc_ins ha o q
theorem pos_set {L : Led} (hp : Pos L) (o : Int) {q : Rat} (h : 0 ≤ q) : Pos (setL L o q) := by
  by_cases hq : q = 0
  · subst hq; rw [setL_zero]; exact fun x hx => hp x ((List.mem_filter.1 hx).1)
  · rw [setL_ins hq]
    intro x hx
    rcases ins_mem hx with rfl | hx
    · show 0 < q; grind
    · exact hp x hx
end Go.Proofs.Ytdlbjmhjaljlfab
