/- A rotation without one of its turns (pure). Condition: two turns or more. -/
import Derived.Test.YthkeopkehjkpeaaTurnM
import Derived.Test.YthkeopkehjkpeaaReads
namespace Go.Proofs.Ythkeopkehjkpeaa
theorem sum_len : ∀ {ts : List Tn}, (∀ z ∈ ts, 1 ≤ z.2) → (ts.length : Int) ≤ sumT ts := by
  intro ts
  induction ts with
  | nil => intro _; exact Int.le_refl _
  | cons h t ih =>
    intro hp
    have := hp h (List.mem_cons_self ..)
    have := ih fun z hz => hp z (List.mem_cons_of_mem _ hz)
    show ((t.length + 1 : Nat) : Int) ≤ h.2 + sumT t
    omega
theorem vt_without {ts : List Tn} (ok : vtB ts = true) {k : Nat} (hk : k < ts.length) (h1 : 1 < ts.length) : vtB (ts.take k ++ ts.drop (k + 1)) = true := by
  obtain ⟨l1, l24, _, s0, s1⟩ := vt_is ok
  have hl : (ts.take k ++ ts.drop (k + 1)).length = ts.length - 1 := by rw [List.length_append, List.length_take, List.length_drop]; omega
  refine vt_make (by omega) (by omega) (fun z hz => ?_) ?_
  · have : z ∈ ts := by
      rcases List.mem_append.1 hz with h | h
      · exact List.mem_of_mem_take h
      · exact List.mem_of_mem_drop h
    have := vt_mem ok z this
    exact ⟨this.1, this.2.1, this.2.2.1⟩
  · have e : sumT ts = sumT (ts.take (k + 1)) + sumT (ts.drop (k + 1)) := by rw [← sumT_append, List.take_append_drop]
    have := take_sumT ok hk
    rw [sumT_succ hk] at e
    rw [sumT_append]; omega
open Go.RowKit
theorem own_empty (w : World) : (w.alloc (.cells #[] 31)).ownsRow w.heap.size 31 2 (.slice (some ⟨w.heap.size, 0, none⟩) 0 0) 0 [] := ⟨rfl, .inr ⟨w.heap.size, 0, #[], rfl, Nat.le_refl _, Blk.new _ _ _, Nat.le_refl _, by unfold maxLen; omega, rfl, rfl⟩⟩
theorem take_reads {w : World} {g o : Nat} {xs : List Tn} (h : IsTn w (some ⟨g, o, none⟩) xs) {k : Nat} (hk : k ≤ xs.length) : Reads w w.heap.size 2 (some ⟨g, o, none⟩) k (valsTn (xs.take k)) := by
  have hl : (xs.take k).length = k := by rw [List.length_take]; omega
  have h2 : IsTn w (some ⟨g, o, none⟩) (xs.take k) := by
    rcases h with rfl | ⟨g', o', e, hc⟩
    · simp; exact .inl rfl
    · injection e with e
      injection e with e1 e2
      subst e1 e2
      exact tn_take hc k
  have := tn_reads h2
  rwa [hl] at this
theorem drop_reads {w : World} {g o : Nat} {xs : List Tn} {cap : Nat} (h : IsTn w (some ⟨g, o, none⟩) xs) {k : Nat} (hk : k ≤ xs.length) (hc : xs.length ≤ cap) : Reads w w.heap.size 2 (if cap = k then some ⟨g, o, none⟩ else some ⟨g, o + k * 2, none⟩) (xs.length - k) (valsTn (xs.drop k)) := by
  have := (tn_reads h).cut hk hc
  have e : (valsTn xs).drop (k * 2) = valsTn (xs.drop k) := by unfold valsTn; rw [← List.map_drop, flatTn_drop]
  rw [e] at this
  have e2 : Option.map (fun a : Addr => a.add (k * 2)) (some (⟨g, o, none⟩ : Addr)) = some ⟨g, o + k * 2, none⟩ := by
    show some ((⟨g, o, none⟩ : Addr).add (k * 2)) = _
    rw [add_off]
  rwa [e2] at this
theorem own_both {w : World} {base : Nat} {v : Value} {xs : List Tn} {k : Nat} (h : w.ownsRow base 31 2 v (0 + k + (xs.length - (k + 1))) (([] ++ valsTn (xs.take k)) ++ valsTn (xs.drop (k + 1)))) (hk : k < xs.length) : ∃ (b : Option Addr) (cap : Nat), v = .slice b (xs.take k ++ xs.drop (k + 1)).length cap ∧ IsTn w b (xs.take k ++ xs.drop (k + 1)) := by
  have hl : (xs.take k ++ xs.drop (k + 1)).length = 0 + k + (xs.length - (k + 1)) := by rw [List.length_append, List.length_take, List.length_drop]; omega
  refine own_tn (base := base) ?_
  unfold OwnTn
  rw [hl, valsTn_append]
  rw [List.nil_append] at h
  exact h
end Go.Proofs.Ythkeopkehjkpeaa
