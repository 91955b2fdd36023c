/- Slices that read as lists of cells, nil among them; appending such a slice to a row of the call's own; rows of holdings. No condition but those stated. -/
import Derived.Test.YtdlbjmhjaljlfabHoldV
import Derived.Test.YtdlbjmhjaljlfabReadz
import Derived.Laws.OwnMore
import Derived.Deep.AppendLies
import Derived.Deep.Draws
import Derived.Maps.AppendAt
import Derived.RegionTactic
import Derived.OwnWalk
namespace Go.Proofs.Ytdlbjmhjaljlfab
open Go.RowKit

/-- the cells of holdings -/
def valsH (hs : List Hd) : List Value := (flatH hs).map (Value.int .i64)
theorem vals_len (hs : List Hd) : (valsH hs).length = hs.length * 3 := by unfold valsH; rw [List.length_map, flat_len]
theorem vals_append (a b : List Hd) : valsH (a ++ b) = valsH a ++ valsH b := by unfold valsH; rw [flat_append, List.map_append]
theorem vals_take (hs : List Hd) (k : Nat) : (valsH hs).take (k * 3) = valsH (hs.take k) := by unfold valsH; rw [← List.map_take, flat_take]
theorem vals_drop (hs : List Hd) (k : Nat) : (valsH hs).drop (k * 3) = valsH (hs.drop k) := by unfold valsH; rw [← List.map_drop, flat_drop]
theorem vals_one (hs : List Hd) : ∀ u ∈ valsH hs, u.oneCell' = true := fun u hu => by
  unfold valsH at hu
  obtain ⟨z, _, rfl⟩ := List.mem_map.1 hu
  rfl
theorem vals_get {hs : List Hd} {k : Nat} (h : k < hs.length) : (valsH hs)[k * 3]? = some (.int .i64 (hs.getD k hd0).1) ∧ (valsH hs)[k * 3 + 1]? = some (.int .i64 (hs.getD k hd0).2.1) ∧ (valsH hs)[k * 3 + 2]? = some (.int .i64 (hs.getD k hd0).2.2) := by
  obtain ⟨a, b, c⟩ := flat_get hs k h
  have hl := flat_len hs
  have get : ∀ j, j < (flatH hs).length → (valsH hs)[j]? = some (.int .i64 ((flatH hs).getD j 0)) := fun j hj => by
    unfold valsH
    rw [List.getElem?_map, List.getElem?_eq_getElem hj, List.getD_eq_getElem?_getD, List.getElem?_eq_getElem hj]; rfl
  rw [get _ (by omega), get _ (by omega), get _ (by omega), a, b, c]
  exact ⟨rfl, rfl, rfl⟩
theorem add_off (g o j : Nat) : (⟨g, o, none⟩ : Addr).add j = ⟨g, o + j, none⟩ := by
  unfold Addr.add
  by_cases h : j = 0
  · subst h; simp
  · simp [h]
theorem hs_reads {w : World} {a : Option Addr} {hs : List Hd} (h : IsHs w a hs) : Reads w w.heap.size 3 a hs.length (valsH hs) := by
  refine ⟨vals_len hs, fun hn => ?_⟩
  rcases h with rfl | ⟨g, o, rfl, hc⟩
  · exact absurd hn (by simp)
  · refine ⟨⟨g, o, none⟩, rfl, ?_, fun j u hu => ?_⟩
    · exact World.block_lt_of_cell? w _ (hc 0 hn).1
    · have hl := vals_len hs
      have hj : j < (valsH hs).length := by
        rcases Nat.lt_or_ge j (valsH hs).length with h | h
        · exact h
        · rw [List.getElem?_eq_none h] at hu; cases hu
      have hk : j / 3 < hs.length := by omega
      obtain ⟨c0, c1, c2⟩ := hc _ hk
      obtain ⟨v0, v1, v2⟩ := vals_get hk
      have hm : j % 3 = 0 ∨ j % 3 = 1 ∨ j % 3 = 2 := by omega
      rw [add_off]
      rcases hm with e | e | e
      · have ej : j = j / 3 * 3 := by omega
        rw [ej] at hu ⊢; rw [v0] at hu; rw [c0, ← hu]
      · have ej : j = j / 3 * 3 + 1 := by omega
        rw [ej] at hu ⊢; rw [v1] at hu; rw [← Nat.add_assoc, c1, ← hu]
      · have ej : j = j / 3 * 3 + 2 := by omega
        rw [ej] at hu ⊢; rw [v2] at hu; rw [← Nat.add_assoc, c2, ← hu]
theorem reads_hs {w : World} {B : Nat} {a : Option Addr} {hs : List Hd} (h : Reads w B 3 a hs.length (valsH hs)) (hsp : ∀ ad, a = some ad → ad.spot = none) : IsHs w a hs := by
  by_cases hn : hs = []
  · exact .inl hn
  · obtain ⟨ad, rfl, _, hc⟩ := h.2 (by cases hs with | nil => exact absurd rfl hn | cons _ _ => simp)
    obtain ⟨g, o, sp⟩ := ad
    obtain rfl : sp = none := hsp _ rfl
    refine .inr ⟨g, o, rfl, fun i hi => ?_⟩
    obtain ⟨v0, v1, v2⟩ := vals_get hi
    have e0 := hc _ _ v0
    have e1 := hc _ _ v1
    have e2 := hc _ _ v2
    rw [add_off] at e0 e1 e2
    rw [← Nat.add_assoc] at e1 e2
    exact ⟨e0, e1, e2⟩
theorem infoH : (Try.prog.info? 60).map (fun i => (i.zero, i.size, i.bytes)) = some (some (.agg #[.int .i64 0, .int .i64 0, .int .i64 0]), 3, 24) := by kernel_rfl
/-- a row of the call's own that holds hs -/
def OwnH (w : World) (base : Nat) (v : Value) (hs : List Hd) : Prop := w.ownsRow base 60 3 v hs.length (valsH hs)
theorem own_hs {w : World} {base : Nat} {v : Value} {hs : List Hd} (h : OwnH w base v hs) : ∃ (b : Option Addr) (cap : Nat), v = .slice b hs.length cap ∧ IsHs w b hs := by
  have h0 := h
  rcases h.2 with ⟨hv, hn⟩ | ⟨g, cap, cur, hv, _⟩
  · exact ⟨none, 0, by rw [hv, hn], .inl (List.eq_nil_of_length_eq_zero hn)⟩
  · subst hv
    exact ⟨some ⟨g, 0, none⟩, cap, rfl, reads_hs (Reads.of_own h0) (fun ad e => by injection e with e; rw [← e])⟩
theorem hs_take {w : World} {g o : Nat} {hs : List Hd} (hc : ∀ i, i < hs.length → w.cell? ⟨g, o + i * 3, none⟩ = some (.int .i64 (hs.getD i hd0).1) ∧ w.cell? ⟨g, o + i * 3 + 1, none⟩ = some (.int .i64 (hs.getD i hd0).2.1) ∧ w.cell? ⟨g, o + i * 3 + 2, none⟩ = some (.int .i64 (hs.getD i hd0).2.2)) (k : Nat) : IsHs w (some ⟨g, o, none⟩) (hs.take k) := by
  refine .inr ⟨g, o, rfl, fun i hi => ?_⟩
  rw [List.length_take] at hi
  have e : (hs.take k).getD i hd0 = hs.getD i hd0 := by
    rw [List.getD_eq_getElem?_getD, List.getD_eq_getElem?_getD, List.getElem?_take_of_lt (by omega)]
  rw [e]; exact hc i (by omega)
/-- where a holding that is built anew lies -/
theorem new_cells (w : World) (cs : List Value) (t : TypeId) : ∀ j u, cs[j]? = some u → (w.alloc (.cells cs.toArray t)).cell? ((⟨w.heap.size, 0, none⟩ : Addr).add j) = some u := fun j u hu => by
  rw [add_off, Nat.zero_add, (Blk.new w t cs.toArray).cell j, ← hu]; simp
end Go.Proofs.Ytdlbjmhjaljlfab
