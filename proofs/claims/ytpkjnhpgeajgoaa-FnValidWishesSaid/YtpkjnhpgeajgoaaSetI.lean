/- Copies of holdings and a share that is set, by impl. Condition: at most 1048576 holdings. -/
import Derived.Test.YtpkjnhpgeajgoaaReads
namespace Go.Proofs.Ytpkjnhpgeajgoaa
open Go.RowKit

theorem with_raw {L : Led} (ha : Asc L) {o n d : Int} {q : Rat} {hs : List Hd} (hh : hs = rawL L) (hq : shareIs n d q) {k : Nat} (hk : k ≤ hs.length) (h1 : ∀ j, j < k → (hs.getD j hd0).1 < o) (h2 : k < hs.length → o ≤ (hs.getD k hd0).1) {s : Nat} (hsk : s = if k < hs.length ∧ (hs.getD k hd0).1 = o then k + 1 else k) :
    rawL (setL L o q) = hs.take k ++ (if n = 0 then [] else [(o, n, d)]) ++ hs.drop s := by
  rw [hsk]
  clear hsk
  subst hh
  rw [raw_len] at hk h2 ⊢
  have g : ∀ j, j < L.length → ((rawL L).getD j hd0).1 = (L.getD j (0, 0)).1 := fun j hj => by rw [raw_get L hj]; rfl
  rw [with_set ha o q hk (fun j hj => by rw [← g j (by omega)]; exact h1 j hj) (fun hl => by rw [← g k hl]; exact h2 hl), raw_append, raw_append, raw_take, raw_drop]
  have e1 : rawL (if q = 0 then [] else [(o, q)]) = (if n = 0 then [] else [(o, n, d)]) := by
    have := shareIs_zero hq
    rw [decide_eq_decide] at this
    by_cases hz : q = 0
    · rw [if_pos hz, if_pos (this.1 hz)]; rfl
    · rw [if_neg hz, if_neg (fun c => hz (this.2 c))]
      show [rawH (o, q)] = _
      rw [shareIs_raw hq hz]
  have e2 : skipL L o k = if k < L.length ∧ ((rawL L).getD k hd0).1 = o then k + 1 else k := by
    unfold skipL
    by_cases hl : k < L.length
    · rw [g k hl]
    · rw [if_neg (fun c => hl c.1), if_neg (fun c => hl c.1)]
  rw [e1, e2]
end Go.Proofs.Ytpkjnhpgeajgoaa
