/- Valid ledgers: what is sold can be bought back, shares that are joined, heirs. No condition but those stated. -/
import Derived.Test.YtdlbjmhjaljlfabLed
import Derived.Test.YtdlbjmhjaljlfabRatF
namespace Go.Proofs.Ytdlbjmhjaljlfab

/-- the sum of all shares -/
def totL : Led → Rat
  | [] => 0
  | h :: t => h.2 + totL t
theorem tot_append (A B : Led) : totL (A ++ B) = totL A + totL B := by
  induction A with
  | nil => show totL B = 0 + totL B; grind
  | cons h t ih => show h.2 + totL (t ++ B) = h.2 + totL t + totL B; rw [ih]; grind
theorem tot_take (L : Led) (k : Nat) : totL L = totL (L.take k) + totL (L.drop k) := by rw [← tot_append, List.take_append_drop]
theorem tot_nonneg {L : Led} (hp : Pos L) : 0 ≤ totL L := by
  induction L with
  | nil => exact Rat.le_refl
  | cons h t ih =>
    have h1 := hp h (by simp)
    have h2 := ih (fun x hx => hp x (by simp [hx]))
    show 0 ≤ h.2 + totL t
    grind
theorem tot_pos {L : Led} (hp : Pos L) (hn : L ≠ []) : 0 < totL L := by
  cases L with
  | nil => exact absurd rfl hn
  | cons h t =>
    have h1 := hp h (by simp)
    have h2 := tot_nonneg (L := t) (fun x hx => hp x (by simp [hx]))
    show 0 < h.2 + totL t
    grind
/-- a valid ledger -/
structure VL (L : Led) : Prop where
  len : L.length ≤ 12
  own : ∀ h ∈ L, 1 ≤ h.1 ∧ h.1 ≤ 999
  fr : ∀ h ∈ L, frB h.2 = true
  pos : Pos L
  asc : Asc L
  sums : ∀ k, k ≤ L.length → frB (totL (L.take k)) = true
  one : totL L = 1
def vlB (L : Led) : Bool := decide (L.length ≤ 12) && L.all (fun h => decide (1 ≤ h.1) && decide (h.1 ≤ 999)) && L.all (fun h => frB h.2) && L.all (fun h => decide (0 < h.2)) && decide (L.Pairwise (fun a b => a.1 < b.1)) && (List.range (L.length + 1)).all (fun k => frB (totL (L.take k))) && decide (totL L = 1)
theorem vl_iff (L : Led) : vlB L = true ↔ VL L := by
  unfold vlB
  simp only [Bool.and_eq_true, decide_eq_true_eq, List.all_eq_true, List.mem_range]
  constructor
  · rintro ⟨⟨⟨⟨⟨⟨a, b⟩, c⟩, d⟩, e⟩, f⟩, g⟩
    exact ⟨a, b, c, d, e, fun k hk => f k (by omega), g⟩
  · intro h
    exact ⟨⟨⟨⟨⟨⟨h.len, h.own⟩, h.fr⟩, h.pos⟩, h.asc⟩, fun k hk => h.sums k (by omega)⟩, h.one⟩
theorem frB_zero : frB 0 = true := by decide
theorem frB_one : frB 1 = true := by decide
/-- no part of a valid ledger alone is valid -/
theorem vl_part {L : Led} (h : VL L) {k : Nat} (hk : k < L.length) : ¬ VL (L.take k) := fun c => by
  have h1 := tot_take L k
  rw [h.one, c.one] at h1
  have h2 := tot_pos (L := L.drop k) (fun x hx => h.pos x (List.mem_of_mem_drop hx)) (fun e => by have := congrArg List.length e; rw [List.length_drop] at this; simp at this; omega)
  grind
theorem share_nonneg {L : Led} (hp : Pos L) (o : Int) : 0 ≤ shareL L o := by
  by_cases h : shareL L o = 0
  · rw [h]; exact Rat.le_refl
  · obtain ⟨x, hx, _, h2⟩ := share_mem h
    rw [← h2]; exact Rat.le_of_lt (hp x hx)
theorem share_fr {L : Led} (hv : VL L) (o : Int) : frB (shareL L o) = true := by
  by_cases h : shareL L o = 0
  · rw [h]; exact frB_zero
  · obtain ⟨x, hx, _, h2⟩ := share_mem h
    rw [← h2]; exact hv.fr x hx
theorem share_own {L : Led} (hv : VL L) {o : Int} (h : shareL L o ≠ 0) : 1 ≤ o ∧ o ≤ 999 := by
  obtain ⟨x, hx, h1, _⟩ := share_mem h
  rw [← h1]; exact hv.own x hx
/-- the ledger after a part was sold -/
def soldL (L : Led) (f t : Int) (p : Rat) : Led := setL (setL L f (shareL L f - p)) t (shareL L t + p)
/-- whether it can be sold: p is a fraction -/
def sellB (L : Led) (f t : Int) (p : Rat) : Bool :=
  frB (shareL L f - p) && frB (shareL L t + p) && decide (p ≠ 0) && decide (f ≠ t) && decide (1 ≤ t) && decide (t ≤ 999) && vlB (soldL L f t p)
theorem sell_iff (L : Led) (f t : Int) (p : Rat) : sellB L f t p = true ↔ frB (shareL L f - p) = true ∧ frB (shareL L t + p) = true ∧ p ≠ 0 ∧ f ≠ t ∧ 1 ≤ t ∧ t ≤ 999 ∧ VL (soldL L f t p) := by
  unfold sellB; simp [vl_iff, and_assoc]
theorem sold_share {L : Led} (ha : Asc L) {f t : Int} (p : Rat) (o : Int) : shareL (soldL L f t p) o = if o = t then shareL L t + p else if o = f then shareL L f - p else shareL L o := by
  unfold soldL
  rw [share_set (asc_set ha _ _), share_set ha]
/-- P20: what is sold can be bought back -/
theorem sell_back {L : Led} (hv : VL L) {f t : Int} {p : Rat} (hp : 0 ≤ p) (h : sellB L f t p = true) : sellB (soldL L f t p) t f p = true ∧ soldL (soldL L f t p) t f p = L := by
  obtain ⟨h1, h2, h3, h4, h5, h6, hm⟩ := (sell_iff _ _ _ _).1 h
  have st : shareL (soldL L f t p) t = shareL L t + p := by rw [sold_share hv.asc, if_pos rfl]
  have sf : shareL (soldL L f t p) f = shareL L f - p := by rw [sold_share hv.asc, if_neg h4, if_pos rfl]
  have e1 : shareL L t + p - p = shareL L t := Rat.add_sub_cancel
  have e2 : shareL L f - p + p = shareL L f := Rat.sub_add_cancel
  have back : soldL (soldL L f t p) t f p = L := by
    refine led_ext _ _ ?_ hv.asc ?_ hv.pos (fun o => ?_)
    · exact asc_set (asc_set hm.asc _ _) _ _
    · unfold soldL
      refine pos_set (pos_set hm.pos _ ?_) _ ?_
      · have := st; unfold soldL at this; rw [this, e1]; exact share_nonneg hv.pos t
      · have := sf; unfold soldL at this; rw [this, e2]; exact share_nonneg hv.pos f
    · rw [sold_share hm.asc, st, sf, e1, e2, sold_share hv.asc]
      by_cases o1 : o = f
      · rw [if_pos o1, o1]
      · rw [if_neg o1]
        by_cases o2 : o = t
        · rw [if_pos o2, o2]
        · rw [if_neg o2, if_neg o2, if_neg o1]
  refine ⟨(sell_iff _ _ _ _).2 ⟨?_, ?_, h3, fun e => h4 e.symm, ?_, ?_, by rw [back]; exact hv⟩, back⟩
  · rw [st, e1]; exact share_fr hv t
  · rw [sf, e2]; exact share_fr hv f
  · refine (share_own hv (o := f) (fun e => ?_)).1
    have := frB_nonneg h1; rw [e] at this; exact h3 (by grind)
  · refine (share_own hv (o := f) (fun e => ?_)).2
    have := frB_nonneg h1; rw [e] at this; exact h3 (by grind)

theorem len_filter {L : Led} (ha : Asc L) (hp : Pos L) (o : Int) : (L.filter (fun h => decide (h.1 ≠ o))).length + (if shareL L o = 0 then 0 else 1) = L.length := by
  induction L with
  | nil => rfl
  | cons h t ih =>
    have h1 := List.pairwise_cons.1 ha
    have pt : Pos t := fun x hx => hp x (by simp [hx])
    by_cases e : h.1 = o
    · have hz : shareL t o = 0 := share_none (fun x hx => by have := h1.1 x hx; omega)
      have hs : shareL (h :: t) o ≠ 0 := by
        show (if h.1 = o then h.2 else _) ≠ 0
        rw [if_pos e]; intro c; have := hp h (by simp); rw [c] at this; exact absurd this (by decide)
      have := ih h1.2 pt
      rw [if_pos hz] at this
      rw [List.filter_cons_of_neg (by simp [e]), if_neg hs, List.length_cons]; omega
    · have hs : shareL (h :: t) o = shareL t o := by show (if h.1 = o then h.2 else _) = _; rw [if_neg e]
      rw [List.filter_cons_of_pos (by simp [e]), hs, List.length_cons, List.length_cons]
      have := ih h1.2 pt
      omega
theorem len_ins {L : Led} (ha : Asc L) (hp : Pos L) (o : Int) (q : Rat) : (insL o q L).length = L.length + (if shareL L o = 0 then 1 else 0) := by
  induction L with
  | nil => rfl
  | cons h t ih =>
    have h1 := List.pairwise_cons.1 ha
    have pt : Pos t := fun x hx => hp x (by simp [hx])
    show (if o ≤ h.1 then _ else _ : Led).length = _
    by_cases e : o ≤ h.1
    · rw [if_pos e, List.length_cons]
      have := len_filter ha hp o
      split at this <;> split <;> first | omega | contradiction
    · have hs : shareL (h :: t) o = shareL t o := by show (if h.1 = o then h.2 else _) = _; rw [if_neg (by omega)]
      rw [if_neg e, List.length_cons, List.length_cons, ih h1.2 pt, hs]; omega
/-- P23: who joins shares has one holding less, or as many -/
theorem join_len {L : Led} (hv : VL L) {f t : Int} (hf : shareL L f ≠ 0) (hft : f ≠ t) : (soldL L f t (shareL L f)).length + (if shareL L t = 0 then 0 else 1) = L.length ∧ shareL (soldL L f t (shareL L f)) f = 0 := by
  refine ⟨?_, ?_⟩
  · unfold soldL
    rw [show shareL L f - shareL L f = 0 from Rat.sub_self, setL_zero]
    have hne : shareL L t + shareL L f ≠ 0 := by
      have a := share_nonneg hv.pos t
      have b := share_nonneg hv.pos f
      intro c; exact hf (by grind)
    have ha := asc_filter hv.asc (fun h => decide (h.1 ≠ f))
    have hp : Pos (L.filter (fun h => decide (h.1 ≠ f))) := fun x hx => hv.pos x (List.mem_filter.1 hx).1
    have es : shareL (L.filter (fun h => decide (h.1 ≠ f))) t = shareL L t := by rw [share_filter, if_neg (fun e => hft e.symm)]
    rw [setL_ins hne, len_ins ha hp, es]
    have := len_filter hv.asc hv.pos f
    rw [if_neg hf] at this
    split <;> omega
  · rw [sold_share hv.asc, if_neg hft, if_pos rfl, Rat.sub_self]
end Go.Proofs.Ytdlbjmhjaljlfab
