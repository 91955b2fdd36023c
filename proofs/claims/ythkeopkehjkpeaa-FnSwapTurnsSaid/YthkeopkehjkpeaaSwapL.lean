/- Exchanged turns (pure): a rotation as before, the same hours, undone by an exchange back. No condition but those stated. -/
import Derived.Test.YthkeopkehjkpeaaSwap
import Derived.Test.YthkeopkehjkpeaaTurnM
namespace Go.Proofs.Ythkeopkehjkpeaa
theorem sumT_set : ∀ {ts : List Tn} {a : Nat} (z : Tn), a < ts.length → sumT (ts.set a z) = sumT ts - (ts.getD a tn0).2 + z.2 := by
  intro ts
  induction ts with
  | nil => intro a z h; exact absurd h (Nat.not_lt_zero _)
  | cons h t ih =>
    intro a z ha
    cases a with
    | zero => show z.2 + sumT t = h.2 + sumT t - h.2 + z.2; omega
    | succ a =>
      have hl : a < t.length := by simpa using ha
      show h.2 + sumT (t.set a z) = h.2 + sumT t - (t.getD a tn0).2 + z.2
      rw [ih z hl]; omega
theorem ownS_set (o : Int) : ∀ {ts : List Tn} {a : Nat} (z : Tn), a < ts.length → ownS (ts.set a z) o = ownS ts o - (if (ts.getD a tn0).1 = o then (ts.getD a tn0).2 else 0) + (if z.1 = o then z.2 else 0) := by
  intro ts
  induction ts with
  | nil => intro a z h; exact absurd h (Nat.not_lt_zero _)
  | cons h t ih =>
    intro a z ha
    cases a with
    | zero =>
      show ownS (z :: t) o = ownS (h :: t) o - (if h.1 = o then h.2 else 0) + _
      rw [ownS_cons, ownS_cons]; omega
    | succ a =>
      have hl : a < t.length := by simpa using ha
      show ownS (h :: t.set a z) o = ownS (h :: t) o - (if (t.getD a tn0).1 = o then (t.getD a tn0).2 else 0) + _
      rw [ownS_cons, ownS_cons, ih z hl]; omega
theorem getD_setT {l : List Tn} {i j : Nat} {z : Tn} (hi : i < l.length) : (l.set i z).getD j tn0 = if j = i then z else l.getD j tn0 := getD_set_tn hi
/-- the exchange of a and b -/
def swN (ts : List Tn) (a b : Nat) : List Tn := (ts.set a (ts.getD b tn0)).set b (ts.getD a tn0)
theorem swN_len (ts : List Tn) (a b : Nat) : (swN ts a b).length = ts.length := by unfold swN; simp
theorem swN_get {ts : List Tn} {a b : Nat} (ha : a < ts.length) (hb : b < ts.length) (j : Nat) : (swN ts a b).getD j tn0 = if j = b then ts.getD a tn0 else if j = a then ts.getD b tn0 else ts.getD j tn0 := by
  unfold swN
  rw [getD_setT (by simpa using hb), getD_setT ha]
theorem swN_sum {ts : List Tn} {a b : Nat} (ha : a < ts.length) (hb : b < ts.length) : sumT (swN ts a b) = sumT ts := by
  unfold swN
  rw [sumT_set _ (by simpa using hb), sumT_set _ ha, getD_setT ha]
  by_cases e : b = a
  · subst e; rw [if_pos rfl]; omega
  · rw [if_neg e]; omega
theorem swN_own {ts : List Tn} {a b : Nat} (ha : a < ts.length) (hb : b < ts.length) (o : Int) : ownS (swN ts a b) o = ownS ts o := by
  unfold swN
  rw [ownS_set o _ (by simpa using hb), ownS_set o _ ha, getD_setT ha]
  by_cases e : b = a
  · subst e; rw [if_pos rfl]; omega
  · rw [if_neg e]; omega
theorem swN_mem {ts : List Tn} {a b : Nat} (ha : a < ts.length) (hb : b < ts.length) : ∀ z ∈ swN ts a b, z ∈ ts := by
  intro z hz
  unfold swN at hz
  rcases List.mem_or_eq_of_mem_set hz with hz | rfl
  · rcases List.mem_or_eq_of_mem_set hz with hz | rfl
    · exact hz
    · exact tn_mem hb
  · exact tn_mem ha
theorem swN_vt {ts : List Tn} (ok : vtB ts = true) {a b : Nat} (ha : a < ts.length) (hb : b < ts.length) : vtB (swN ts a b) = true := by
  obtain ⟨l1, l24, _, _, s1⟩ := vt_is ok
  refine vt_make (by rw [swN_len]; exact l1) (by rw [swN_len]; exact l24) (fun z hz => ?_) (by rw [swN_sum ha hb]; exact s1)
  have := vt_mem ok z (swN_mem ha hb z hz)
  exact ⟨this.1, this.2.1, this.2.2.1⟩
theorem swN_back {ts : List Tn} {a b : Nat} (ha : a < ts.length) (hb : b < ts.length) : swN (swN ts a b) b a = ts := by
  have hl : (swN (swN ts a b) b a).length = ts.length := by rw [swN_len, swN_len]
  apply List.ext_getElem hl
  intro j h1 h2
  have e1 : (swN (swN ts a b) b a)[j] = (swN (swN ts a b) b a).getD j tn0 := by rw [List.getD_eq_getElem?_getD, List.getElem?_eq_getElem h1]; rfl
  have e2 : ts[j] = ts.getD j tn0 := by rw [List.getD_eq_getElem?_getD, List.getElem?_eq_getElem h2]; rfl
  rw [e1, e2, swN_get (by rw [swN_len]; exact hb) (by rw [swN_len]; exact ha), swN_get ha hb, swN_get ha hb, swN_get ha hb]
  by_cases e : j = a
  · subst e
    by_cases f : b = j
    · subst f; simp
    · rw [if_pos rfl, if_pos rfl]
  · by_cases f : j = b
    · subst f
      rw [if_neg e, if_pos rfl]
      by_cases g : a = j
      · exact absurd g.symm e
      · rw [if_neg g, if_pos rfl]
    · rw [if_neg e, if_neg f, if_neg f, if_neg e]
theorem sw_yes {ts : List Tn} {i k : Int} (h : swB ts i k = true) : ∃ a b : Nat, i = (a : Int) ∧ k = (b : Int) ∧ a < ts.length ∧ b < ts.length ∧ vtB ts = true ∧ swL ts i k = swN ts a b := by
  unfold swB at h
  rw [Bool.and_eq_true, Bool.and_eq_true] at h
  obtain ⟨⟨hv, hi⟩, hk⟩ := h
  obtain ⟨a, rfl, ha⟩ := in_yes hi
  obtain ⟨b, rfl, hb⟩ := in_yes hk
  exact ⟨a, b, rfl, rfl, ha, hb, hv, rfl⟩
theorem sw_of {ts : List Tn} {a b : Nat} (hv : vtB ts = true) (ha : a < ts.length) (hb : b < ts.length) : swB ts (a : Int) (b : Int) = true := by
  unfold swB inB
  rw [hv, decide_eq_true (by omega : (0 : Int) ≤ (a : Int)), decide_eq_true (by omega : (0 : Int) ≤ (b : Int)), decide_eq_true (by omega : (a : Int) < (ts.length : Int)), decide_eq_true (by omega : (b : Int) < (ts.length : Int))]; rfl
end Go.Proofs.Ythkeopkehjkpeaa
