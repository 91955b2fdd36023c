/- More of what the laws on rotations want (pure): owners at starts, hours of the owners up to a number, the highest owner. No condition but those stated. -/
import Derived.Test.YthkeopkehjkpeaaMergL
namespace Go.Proofs.Ythkeopkehjkpeaa
theorem tn_mem {ts : List Tn} {k : Nat} (h : k < ts.length) : ts.getD k tn0 ∈ ts := by
  rw [List.getD_eq_getElem?_getD, List.getElem?_eq_getElem h]; exact List.getElem_mem _
theorem who_in {ts : List Tn} : ∀ {t : Int}, 0 ≤ t → t < sumT ts → ∃ x ∈ ts, whoT ts t = x.1 := by
  induction ts with
  | nil => intro t h0 h1; exact absurd h1 (by show ¬ t < 0; omega)
  | cons h r ih =>
    intro t h0 h1
    rw [whoT_cons]
    by_cases c : t < h.2
    · rw [if_pos c]; exact ⟨h, List.mem_cons_self .., rfl⟩
    · rw [if_neg c]
      have h1' : t < h.2 + sumT r := h1
      obtain ⟨x, hx, e⟩ := ih (t := t - h.2) (by omega) (by omega)
      exact ⟨x, List.mem_cons_of_mem _ hx, e⟩
theorem who_yes {ts : List Tn} {t : Int} (h : ¬ whoV ts t = -1) : vtB ts = true ∧ 0 ≤ t ∧ t ≤ 5000 ∧ 1 ≤ whoV ts t ∧ whoV ts t ≤ 999 := by
  have e : (vtB ts && (decide (0 ≤ t) && decide (t ≤ 5000))) = true := by
    cases c : (vtB ts && (decide (0 ≤ t) && decide (t ≤ 5000))) with
    | true => rfl
    | false => exact absurd (by unfold whoV; rw [c]; rfl) h
  simp only [Bool.and_eq_true, decide_eq_true_eq] at e
  obtain ⟨_, _, _, s0, _⟩ := vt_is e.1
  obtain ⟨x, hx, hw⟩ := who_in (ts := ts) (Int.emod_nonneg t (by omega : sumT ts ≠ 0)) (Int.emod_lt_of_pos t (by omega : 0 < sumT ts))
  have := vt_mem e.1 x hx
  rw [who_val e.1 e.2.1 e.2.2]
  unfold whoM
  rw [hw]
  exact ⟨e.1, e.2.1, e.2.2, this.1, this.2.1⟩
theorem who_per (ts : List Tn) (t : Int) : whoM ts (t + sumT ts) = whoM ts t := by
  have := whoM_add (ts := ts) 1 t
  rwa [Int.mul_one] at this
theorem take_sumT {ts : List Tn} (ok : vtB ts = true) {k : Nat} (hk : k < ts.length) : 0 ≤ sumT (ts.take k) ∧ sumT (ts.take k) + (ts.getD k tn0).2 ≤ sumT ts ∧ 1 ≤ (ts.getD k tn0).2 := by
  have hp := fun z hz => (vt_mem ok z hz)
  have h0 := (own_first 0 (ts.take k) (fun z hz => by have := hp z (List.mem_of_mem_take hz); omega)).2
  have h1 := (own_first 0 (ts.drop (k + 1)) (fun z hz => by have := hp z (List.mem_of_mem_drop hz); omega)).2
  have e : sumT ts = sumT (ts.take (k + 1)) + sumT (ts.drop (k + 1)) := by rw [← sumT_append, List.take_append_drop]
  rw [sumT_succ hk] at e
  exact ⟨h0, by omega, (hp _ (tn_mem hk)).2.2.1⟩
theorem whoM_start {ts : List Tn} (ok : vtB ts = true) {k : Nat} (hk : k < ts.length) : whoM ts (sumT (ts.take k)) = (ts.getD k tn0).1 := by
  obtain ⟨a, b, c⟩ := take_sumT ok hk
  rw [whoM_small a (by omega)]
  have e : ts = ts.take k ++ ts.drop k := (List.take_append_drop k ts).symm
  have h2 : whoT (ts.take k ++ ts.drop k) (sumT (ts.take k)) = (ts.getD k tn0).1 := by
    rw [whoT_app _ _ _ (fun z hz => (vt_mem ok z (List.mem_of_mem_take hz)).2.2.1) a, if_neg (by omega), Int.sub_self]
    rw [List.drop_eq_getElem_cons hk, whoT_cons]
    have hg : ts[k] = ts.getD k tn0 := by rw [List.getD_eq_getElem?_getD, List.getElem?_eq_getElem hk]; rfl
    rw [hg, if_pos (by omega)]
  rwa [← e] at h2
/-- hours of the owners up to q -/
def lowS : List Tn → Int → Int
  | [], _ => 0
  | h :: t, q => (if h.1 ≤ q then h.2 else 0) + lowS t q
theorem lowS_zero : ∀ {ts : List Tn}, (∀ z ∈ ts, 1 ≤ z.1) → lowS ts 0 = 0 := by
  intro ts
  induction ts with
  | nil => intro _; rfl
  | cons h t ih =>
    intro hp
    have := hp h (List.mem_cons_self ..)
    show (if h.1 ≤ 0 then h.2 else 0) + lowS t 0 = 0
    rw [if_neg (by omega), ih (fun z hz => hp z (List.mem_cons_of_mem _ hz))]; rfl
theorem ownS_cons (h : Tn) (t : List Tn) (o : Int) : ownS (h :: t) o = (if h.1 = o then h.2 else 0) + ownS t o := rfl
theorem lowS_succ (q : Int) : ∀ ts : List Tn, lowS ts (q + 1) = lowS ts q + ownS ts (q + 1) := by
  intro ts
  induction ts with
  | nil => rfl
  | cons h t ih =>
    rw [ownS_cons]
    show (if h.1 ≤ q + 1 then h.2 else 0) + lowS t (q + 1) = (if h.1 ≤ q then h.2 else 0) + lowS t q + ((if h.1 = q + 1 then h.2 else 0) + ownS t (q + 1))
    rw [ih]
    by_cases c : h.1 ≤ q
    · rw [if_pos c, if_pos (by omega), if_neg (by omega)]; omega
    · by_cases d : h.1 = q + 1
      · rw [if_neg c, if_pos (by omega), if_pos d]; omega
      · rw [if_neg c, if_neg (by omega), if_neg d]; omega
theorem lowS_bd (q : Int) : ∀ ts : List Tn, (∀ z ∈ ts, 1 ≤ z.2) → 0 ≤ lowS ts q ∧ lowS ts q ≤ sumT ts ∧ (lowS ts q ≠ sumT ts → ∃ z ∈ ts, q < z.1) := by
  intro ts
  induction ts with
  | nil => intro _; exact ⟨Int.le_refl _, Int.le_refl _, fun h => absurd rfl h⟩
  | cons h t ih =>
    intro hp
    have h1 := hp h (List.mem_cons_self ..)
    obtain ⟨a, b, c⟩ := ih (fun z hz => hp z (List.mem_cons_of_mem _ hz))
    show 0 ≤ (if h.1 ≤ q then h.2 else 0) + lowS t q ∧ (if h.1 ≤ q then h.2 else 0) + lowS t q ≤ h.2 + sumT t ∧ ((if h.1 ≤ q then h.2 else 0) + lowS t q ≠ h.2 + sumT t → _)
    by_cases d : h.1 ≤ q
    · rw [if_pos d]
      refine ⟨by omega, by omega, fun e => ?_⟩
      obtain ⟨z, hz, hq⟩ := c (by omega)
      exact ⟨z, List.mem_cons_of_mem _ hz, hq⟩
    · rw [if_neg d]
      exact ⟨by omega, by omega, fun _ => ⟨h, List.mem_cons_self .., by omega⟩⟩
/-- the highest of the first k owners -/
def maxO (ts : List Tn) : Nat → Int
  | 0 => 0
  | k + 1 => max (maxO ts k) (ts.getD k tn0).1
theorem maxO_ge {ts : List Tn} {k : Nat} : ∀ {n : Nat}, k < n → (ts.getD k tn0).1 ≤ maxO ts n := by
  intro n
  induction n with
  | zero => intro h; omega
  | succ n ih =>
    intro h
    show _ ≤ max (maxO ts n) (ts.getD n tn0).1
    by_cases e : k = n
    · subst e; exact Int.le_max_right ..
    · exact Int.le_trans (ih (by omega)) (Int.le_max_left ..)
theorem maxO_mem {ts : List Tn} {z : Tn} (h : z ∈ ts) : z.1 ≤ maxO ts ts.length := by
  obtain ⟨k, hk, e⟩ := List.mem_iff_getElem.1 h
  have := maxO_ge (ts := ts) hk
  rwa [List.getD_eq_getElem?_getD, List.getElem?_eq_getElem hk, Option.getD_some, e] at this
theorem per_start {ts : List Tn} {n : Nat} (hn : ts.length = n + 1) : sumT (ts.take n) + (ts.getD n tn0).2 = sumT ts := by
  rw [← sumT_succ (by omega), List.take_of_length_le (by omega)]
end Go.Proofs.Ythkeopkehjkpeaa
