/- Merged turns (pure facts): the same owners at all times, no two owners alike side by side, merging again changes nothing. No condition. -/
import Derived.Test.YthkeopkehjkpeaaMerge
import Derived.Test.YthkeopkehjkpeaaTurnL
namespace Go.Proofs.Ythkeopkehjkpeaa

theorem whoT_app (b : List Tn) : ∀ (a : List Tn) (t : Int), (∀ z ∈ a, 1 ≤ z.2) → 0 ≤ t → whoT (a ++ b) t = if t < sumT a then whoT a t else whoT b (t - sumT a) := by
  intro a
  induction a with
  | nil =>
    intro t _ h0
    rw [if_neg (by show ¬ t < 0; omega)]
    show whoT b t = whoT b (t - 0)
    rw [Int.sub_zero]
  | cons h r ih =>
    intro t hp h0
    have h1 := hp h (List.mem_cons_self ..)
    have hs : 0 ≤ sumT r := (own_first 0 r (fun x hx => by have := hp x (List.mem_cons_of_mem _ hx); omega)).2
    rw [List.cons_append, whoT_cons, whoT_cons]
    show (if t < h.2 then h.1 else whoT (r ++ b) (t - h.2)) = if t < h.2 + sumT r then (if t < h.2 then h.1 else whoT r (t - h.2)) else whoT b (t - (h.2 + sumT r))
    by_cases c : t < h.2
    · rw [if_pos c, if_pos (by omega), if_pos c]
    · rw [if_neg c, ih (t - h.2) (fun z hz => hp z (List.mem_cons_of_mem _ hz)) (by omega)]
      by_cases d : t - h.2 < sumT r
      · rw [if_pos d, if_pos (by omega), if_neg c]
      · rw [if_neg d, if_neg (by omega)]
        congr 1; omega
theorem who_one (x : Tn) {t : Int} (h : t < x.2) : whoT [x] t = x.1 := by rw [whoT_cons, if_pos h]
/-- out are the turns of ys, merged -/
structure Mgd (out ys : List Tn) : Prop where
  sum : sumT out = sumT ys
  who : ∀ t, 0 ≤ t → t < sumT ys → whoT out t = whoT ys t
  adj : ∀ i, i + 1 < out.length → (out.getD i tn0).1 ≠ (out.getD (i + 1) tn0).1
  pos : ∀ z ∈ out, 1 ≤ z.1 ∧ z.1 ≤ 999 ∧ 1 ≤ z.2
  len : out.length ≤ ys.length
  last : ys ≠ [] → out ≠ [] ∧ (out.getD (out.length - 1) tn0).1 = (ys.getD (ys.length - 1) tn0).1
theorem mgd_nil : Mgd [] [] := ⟨rfl, fun _ _ _ => rfl, fun _ h => absurd h (by simp), fun _ h => absurd h (by simp), Nat.le_refl _, fun h => absurd rfl h⟩
theorem getD_last (a : List Tn) (z : Tn) : ((a ++ [z]).getD ((a ++ [z]).length - 1) tn0) = z := by
  rw [show (a ++ [z]).length - 1 = a.length from by simp, getD_snoc, if_pos rfl]
theorem mgd_step {out ys : List Tn} (h : Mgd out ys) (hy : ∀ z ∈ ys, 1 ≤ z.2) {x : Tn} (hx : 1 ≤ x.1 ∧ x.1 ≤ 999 ∧ 1 ≤ x.2) (c : Bool) (hc : c = true ↔ ys ≠ [] ∧ (ys.getD (ys.length - 1) tn0).1 = x.1) : Mgd (mrg1 out x c) (ys ++ [x]) := by
  have hsx : sumT [x] = x.2 := by show x.2 + 0 = x.2; omega
  have hos : sumT (ys ++ [x]) = sumT ys + x.2 := by rw [sumT_append, hsx]
  have hpo : ∀ z ∈ out, 1 ≤ z.2 := fun z hz => (h.pos z hz).2.2
  cases hb : c with
  | false =>
    rw [mrg_none]
    refine ⟨by rw [hos, sumT_append, hsx, h.sum], fun t t0 t1 => ?_, fun i hi => ?_, fun z hz => ?_, by simpa using h.len, fun _ => ⟨by simp, by rw [getD_last, getD_last]⟩⟩
    · rw [hos] at t1
      rw [whoT_app _ _ _ hpo t0, whoT_app _ _ _ hy t0, h.sum]
      by_cases d : t < sumT ys
      · rw [if_pos d, if_pos d, h.who t t0 d]
      · rw [if_neg d, if_neg d]
    · rw [List.length_append] at hi
      have hi' : i + 1 < out.length + 1 := hi
      by_cases d : i + 1 = out.length
      · have hne : ys ≠ [] := by
          intro e
          subst e
          have := h.len
          simp at this
          subst this
          simp at d
        rw [getD_snoc, if_neg (by omega), getD_snoc, if_pos d]
        have hl := (h.last hne).2
        rw [show out.length - 1 = i from by omega] at hl
        rw [hl]
        intro e
        have := hc.2 ⟨hne, e⟩
        rw [hb] at this; cases this
      · rw [getD_snoc, if_neg (by omega), getD_snoc, if_neg d]
        exact h.adj i (by omega)
    · rcases List.mem_append.1 hz with hz | hz
      · exact h.pos z hz
      · rw [List.mem_singleton.1 hz]; exact hx
  | true =>
    obtain ⟨hne, he⟩ := hc.1 hb
    obtain ⟨ho, hl⟩ := h.last hne
    obtain ⟨a, z, rfl⟩ : ∃ a z, out = a ++ [z] := ⟨out.dropLast, out.getLast ho, (List.dropLast_concat_getLast ho).symm⟩
    rw [getD_last, he] at hl
    have hm : mrg1 (a ++ [z]) x true = a ++ [(z.1, z.2 + x.2)] := by
      rw [mrg_some (q := a.length) (by simp), getD_snoc, if_pos rfl, List.set_append, if_neg (by omega), Nat.sub_self]; rfl
    rw [hm]
    have hz := h.pos z (by simp)
    have hpa : ∀ z ∈ a, 1 ≤ z.2 := fun z hz => hpo z (by simp [hz])
    have hsz : sumT [z] = z.2 := by show z.2 + 0 = z.2; omega
    have hs := h.sum
    rw [sumT_append, hsz] at hs
    refine ⟨?_, fun t t0 t1 => ?_, fun i hi => ?_, fun q hq => ?_, by have := h.len; simp at this ⊢; omega, fun _ => ⟨by simp, by rw [getD_last, getD_last]; exact hl⟩⟩
    · rw [sumT_append, hos, ← hs]; show sumT a + (z.2 + x.2 + 0) = _; omega
    · rw [hos] at t1
      rw [whoT_app _ _ _ hpa t0, whoT_app _ _ _ hy t0]
      by_cases d : t < sumT ys
      · rw [if_pos d, ← h.who t t0 d, whoT_app _ _ _ hpa t0]
        by_cases f : t < sumT a
        · rw [if_pos f, if_pos f]
        · rw [if_neg f, if_neg f, who_one _ (by show t - sumT a < z.2 + x.2; omega), who_one _ (by omega)]
      · rw [if_neg d, if_neg (by omega), who_one _ (by show t - sumT a < z.2 + x.2; omega), who_one _ (by omega)]
        exact hl
    · have hi' : i + 1 < a.length + 1 := by simpa using hi
      have := h.adj i (by simpa using hi')
      rw [getD_snoc, getD_snoc] at this ⊢
      rw [if_neg (by omega)] at this ⊢
      by_cases d : i + 1 = a.length
      · rw [if_pos d] at this ⊢; exact this
      · rw [if_neg d] at this ⊢; exact this
    · rcases List.mem_append.1 hq with hq | hq
      · exact h.pos q (by simp [hq])
      · rw [List.mem_singleton.1 hq]; exact ⟨hz.1, hz.2.1, by show 1 ≤ z.2 + x.2; omega⟩
theorem mgd_all {ts : List Tn} (ok : vtB ts = true) : ∀ k, k ≤ ts.length → Mgd (mrgT ts k) (ts.take k) := by
  intro k
  induction k with
  | zero => intro _; exact mgd_nil
  | succ k ih =>
    intro hk
    have hm := fun z hz => vt_mem ok z hz
    have hx : ts.getD k tn0 ∈ ts := by
      rw [List.getD_eq_getElem?_getD, List.getElem?_eq_getElem (by omega)]; exact List.getElem_mem _
    have h := mgd_step (x := ts.getD k tn0) (ih (by omega)) (fun z hz => (hm z (List.mem_of_mem_take hz)).2.2.1) ⟨(hm _ hx).1, (hm _ hx).2.1, (hm _ hx).2.2.1⟩ (prevT ts k) (by
      unfold prevT
      rw [Bool.and_eq_true, decide_eq_true_eq, decide_eq_true_eq]
      have hl : (ts.take k).length = k := by simp; omega
      rw [hl]
      constructor
      · rintro ⟨k0, e⟩
        refine ⟨fun c => by rw [c] at hl; simp at hl; omega, ?_⟩
        rw [← e]
        simp only [List.getD_eq_getElem?_getD]
        rw [List.getElem?_take, if_pos (by omega)]
      · rintro ⟨c, e⟩
        have k0 : 0 < k := by
          rcases Nat.eq_zero_or_pos k with rfl | h
          · simp at c
          · exact h
        refine ⟨k0, ?_⟩
        rw [← e]
        simp only [List.getD_eq_getElem?_getD]
        rw [List.getElem?_take, if_pos (by omega)])
    rw [← take_snocD ts (by omega) tn0] at h
    exact h
theorem sum_mem : ∀ {ts : List Tn}, (∀ z ∈ ts, 1 ≤ z.2) → ∀ z ∈ ts, z.2 ≤ sumT ts := by
  intro ts
  induction ts with
  | nil => intro _ z hz; simp at hz
  | cons h r ih =>
    intro hp z hz
    have hs : 0 ≤ sumT r := (own_first 0 r (fun x hx => by have := hp x (List.mem_cons_of_mem _ hx); omega)).2
    have h1 := hp h (List.mem_cons_self ..)
    show z.2 ≤ h.2 + sumT r
    rcases List.mem_cons.1 hz with rfl | hz
    · omega
    · have := ih (fun q hq => hp q (List.mem_cons_of_mem _ hq)) z hz
      omega
theorem vt_make {ts : List Tn} (l1 : 1 ≤ ts.length) (l24 : ts.length ≤ 24) (hp : ∀ z ∈ ts, 1 ≤ z.1 ∧ z.1 ≤ 999 ∧ 1 ≤ z.2) (hs : sumT ts ≤ 336) : vtB ts = true := by
  unfold vtB allT
  rw [decide_eq_true l1, decide_eq_true l24, decide_eq_true hs, Bool.true_and, Bool.true_and, Bool.and_true, List.all_eq_true]
  intro k hk
  have hk' : k < ts.length := List.mem_range.1 hk
  have hx : ts.getD k tn0 ∈ ts := by
    rw [List.getD_eq_getElem?_getD, List.getElem?_eq_getElem hk']; exact List.getElem_mem _
  have a := hp _ hx
  have b := sum_mem (fun z hz => (hp z hz).2.2) _ hx
  exact (okT_iff ts k).2 ⟨a.1, a.2.1, a.2.2, by omega⟩
theorem mrg_law {ts : List Tn} (ok : vtB ts = true) : vtB (mrgT ts ts.length) = true ∧ (∀ t : Int, 0 ≤ t → t ≤ 5000 → whoV (mrgT ts ts.length) t = whoV ts t) ∧ (∀ i, i + 1 < (mrgT ts ts.length).length → ((mrgT ts ts.length).getD i tn0).1 ≠ ((mrgT ts ts.length).getD (i + 1) tn0).1) := by
  have h := mgd_all ok ts.length (Nat.le_refl _)
  rw [List.take_of_length_le (Nat.le_refl _)] at h
  obtain ⟨l1, l24, hok, s0, s1⟩ := vt_is ok
  have hne : ts ≠ [] := fun c => by rw [c] at l1; simp at l1
  have hv : vtB (mrgT ts ts.length) = true := vt_make (by
    have := (h.last hne).1
    rcases hc : mrgT ts ts.length with _ | ⟨a, b⟩
    · exact absurd hc this
    · simp) (Nat.le_trans h.len l24) h.pos (by rw [h.sum]; exact s1)
  refine ⟨hv, fun t t0 t1 => ?_, h.adj⟩
  rw [who_val hv t0 t1, who_val ok t0 t1]
  unfold whoM
  rw [h.sum]
  exact h.who _ (Int.emod_nonneg _ (by omega)) (Int.emod_lt_of_pos _ (by omega))
theorem mrg_again {out : List Tn} (h : ∀ i, i + 1 < out.length → (out.getD i tn0).1 ≠ (out.getD (i + 1) tn0).1) : mrgT out out.length = out := by
  have : ∀ k, k ≤ out.length → mrgT out k = out.take k := by
    intro k
    induction k with
    | zero => intro _; rfl
    | succ k ih =>
      intro hk
      have hp : prevT out k = false := by
        unfold prevT
        rcases Nat.eq_zero_or_pos k with rfl | k0
        · rfl
        · rw [Bool.and_eq_false_iff]
          refine .inr (decide_eq_false ?_)
          have := h (k - 1) (by omega)
          rwa [show k - 1 + 1 = k from by omega] at this
      show mrg1 (mrgT out k) (out.getD k tn0) (prevT out k) = _
      rw [ih (by omega), hp, mrg_none, ← take_snocD out (by omega) tn0]
  rw [this _ (Nat.le_refl _), List.take_of_length_le (Nat.le_refl _)]
end Go.Proofs.Ythkeopkehjkpeaa
