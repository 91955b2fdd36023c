/- The wishes that the laws draw. Condition: the reader has read at most 50000 numbers before. -/
import Derived.Test.YtdlbjmhjaljlfabDrawWb
namespace Go.Proofs.Ytdlbjmhjaljlfab
open Go.RowKit
set_option linter.unusedSimpArgs false
set_option linter.unusedVariables false
theorem rowok_store {W : World} {lo b n g : Nat} {v : Value} {ob : Option Nat} (h : RowOk W lo b n v ob) (hn : 1 ≤ n) (z : Int) : RowOk (W.setCell ⟨g, 0, none⟩ (.int .i64 z)) lo b n v ob := by
  obtain ⟨xs, a, o, c, d⟩ := h
  obtain ⟨g', cp, rfl, lg, lt⟩ := o.form (by omega)
  by_cases e : g' = g
  · subst e
    have := (o.stored 0 (.int .i64 z)).1
    refine ⟨xs.set 0 z, by simpa using a, ?_, c, d⟩
    rw [List.map_set]; exact this
  · exact ⟨xs, a, o.kept (g_set (g_below (Below.refl W.heap.size W) (some g)) (.inl rfl) _) (.inr (fun h => e (Option.some.inj h))), c, d⟩
theorem out_store {W : World} {lo n g : Nat} {v : Value} {rv : List Value} (o : W.ownsRow lo 40 1 v n rv) (hne : v.ownBlock ≠ some g) (z : Int) : (W.setCell ⟨g, 0, none⟩ (.int .i64 z)).ownsRow lo 40 1 v n rv :=
  o.kept (g_set (g_below (Below.refl W.heap.size W) (some g)) (.inl rfl) _) (.inr hne)
/-- as rows -/
theorem rows_of {W : World} {lo b n : Nat} {v : Value} {rv : List Value} (o : W.ownsRow lo 40 1 v n rv) (hl : rv.length = n) (hr : ∀ j, j < n → RowOk W lo b n (rv.getD j undef) v.ownBlock) : ∃ a cap rs, v = .slice a rs.length cap ∧ rs.length = n ∧ rs.length ≤ cap ∧ IsRows W a rs := by
  have hx : ∀ j, ∃ xs : List Int, j < n → xs.length = n ∧ ∃ A cp, rv.getD j undef = .slice A n cp ∧ n ≤ cp ∧ IsInts W A xs := fun j => by
    by_cases hj : j < n
    · obtain ⟨xs, a, ow, c, d⟩ := hr j hj
      obtain ⟨A, cp, e, hc, hi, _⟩ := own_anyW ow a
      exact ⟨xs, fun _ => ⟨a, A, cp, e, hc, hi⟩⟩
    · exact ⟨[], fun h => absurd h hj⟩
  obtain ⟨f, hf⟩ := Classical.axiomOfChoice hx
  have hlen : ((List.range n).map f).length = n := by simp
  obtain ⟨_, h | ⟨g, cap, cur, hv, hg, hb, hc, hm, hs, ht⟩⟩ := id o
  · refine ⟨none, 0, (List.range n).map f, by rw [hlen, h.1, h.2], hlen, by rw [hlen, h.2]; exact Nat.le_refl _, .inl ?_⟩
    exact List.eq_nil_of_length_eq_zero (by rw [hlen]; exact h.2)
  · subst hv
    refine ⟨some ⟨g, 0, none⟩, cap, (List.range n).map f, by rw [hlen], hlen, by rw [hlen]; exact hc, .inr ⟨g, 0, rfl, fun i hi => ?_⟩⟩
    rw [hlen] at hi
    obtain ⟨a, A, cp, e, hcp, hin⟩ := hf i hi
    have hgd : ((List.range n).map f).getD i [] = f i := by
      rw [List.getD_eq_getElem?_getD, List.getElem?_map, List.getElem?_range hi]; rfl
    rw [hgd, a]
    refine ⟨A, cp, ?_, hcp, hin⟩
    have := World.ownsRow.cells (g := g) o rfl i (rv.getD i undef) (by rw [List.getD_eq_getElem?_getD, List.getElem?_eq_getElem (by rw [hl]; exact hi)]; rfl)
    rw [add_off] at this
    rw [this, e]
end Go.Proofs.Ytdlbjmhjaljlfab
