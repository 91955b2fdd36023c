/- Turns for a ledger (pure), and what TurnsFor leaves. No condition. -/
import Derived.Test.YtonoallohalhgaaUnits
import Derived.Test.YtonoallohalhgaaMathQ
import Derived.Test.YtonoallohalhgaaSwap
import Derived.Test.YtonoallohalhgaaOwnI
namespace Go.Proofs.Ytonoallohalhgaa
open Go.RowKit
set_option linter.unusedSimpArgs false
set_option linter.unusedVariables false

def tfTo (hs : List Hd) (gs : List Int) : Nat → List Tn
  | 0 => []
  | k + 1 => if 0 < gs.getD k 0 then tfTo hs gs k ++ [((hs.getD k hd0).1, gs.getD k 0)] else tfTo hs gs k
theorem tfTo_yes {hs : List Hd} {gs : List Int} {k : Nat} (h : 0 < gs.getD k 0) : tfTo hs gs (k + 1) = tfTo hs gs k ++ [((hs.getD k hd0).1, gs.getD k 0)] := if_pos h
theorem tfTo_no {hs : List Hd} {gs : List Int} {k : Nat} (h : ¬ 0 < gs.getD k 0) : tfTo hs gs (k + 1) = tfTo hs gs k := if_neg h
theorem tfTo_len (hs : List Hd) (gs : List Int) : ∀ k, (tfTo hs gs k).length ≤ k := by
  intro k
  induction k with
  | zero => exact Nat.le_refl _
  | succ k ih =>
    by_cases h : 0 < gs.getD k 0
    · rw [tfTo_yes h, List.length_append]; show _ + 1 ≤ _; omega
    · rw [tfTo_no h]; omega
theorem tfTo_some (hs : List Hd) (gs : List Int) : ∀ k, (∃ j, j < k ∧ 0 < gs.getD j 0) → 0 < (tfTo hs gs k).length := by
  intro k
  induction k with
  | zero => rintro ⟨j, h, _⟩; omega
  | succ k ih =>
    rintro ⟨j, h, hj⟩
    by_cases c : 0 < gs.getD k 0
    · rw [tfTo_yes c, List.length_append]; show 0 < _ + 1; omega
    · rw [tfTo_no c]
      refine ih ⟨j, ?_, hj⟩
      by_cases e : j = k
      · subst e; exact absurd hj c
      · omega
theorem sum_pos_at : ∀ l : List Int, 0 < l.sum → ∃ j, j < l.length ∧ 0 < l.getD j 0 := by
  intro l
  induction l with
  | nil => intro h; simp at h
  | cons z t ih =>
    intro h
    rw [List.sum_cons] at h
    by_cases c : 0 < z
    · exact ⟨0, by simp, c⟩
    · obtain ⟨j, a, b⟩ := ih (by omega)
      exact ⟨j + 1, by simpa using a, b⟩
def tfB (hs : List Hd) (n : Int) : Bool := decide (cdR hs ≠ -1) && (decide (1 ≤ n) && decide (n ≤ 336)) && vwB (unR hs)
def tfL (hs : List Hd) (n : Int) : List Tn := tfTo hs (sr n (unR hs)) hs.length
theorem tf_no {hs : List Hd} {n : Int} (h : cdR hs = -1 ∨ (n < 1 ∨ 336 < n) ∨ vwB (unR hs) = false) : tfB hs n = false := by
  unfold tfB
  rcases h with h | h | h
  · rw [h]; rfl
  · rcases h with h | h
    · rw [decide_eq_false (by omega : ¬ 1 ≤ n)]; simp
    · rw [decide_eq_false (by omega : ¬ n ≤ 336)]; simp
  · rw [h]; simp
theorem tf_yes {hs : List Hd} {n : Int} (h1 : cdR hs ≠ -1) (h2 : 1 ≤ n) (h3 : n ≤ 336) (h4 : vwB (unR hs) = true) : tfB hs n = true := by
  unfold tfB; rw [h4, decide_eq_true h1, decide_eq_true h2, decide_eq_true h3]; rfl
theorem tf_cs {hs : List Hd} {n : Int} (h2 : 1 ≤ n) (h3 : n ≤ 336) (h4 : vwB (unR hs) = true) : csB n (unR hs) = true := by
  unfold csB; rw [h4, decide_eq_true (by omega : 0 ≤ n), decide_eq_true (by omega : n ≤ 500)]; rfl
theorem tf_some {hs : List Hd} {n : Int} (h2 : 1 ≤ n) (hc : csB n (unR hs) = true) : 0 < (tfL hs n).length := by
  obtain ⟨j, a, b⟩ := sum_pos_at (sr n (unR hs)) (by rw [sr_sum hc]; omega)
  rw [sr_len, un_len] at a
  exact tfTo_some _ _ _ ⟨j, a, b⟩
theorem tf_len (hs : List Hd) (n : Int) : (tfL hs n).length ≤ hs.length := tfTo_len _ _ _
/-- what TurnsFor leaves: nil and false, or turns in memory of its own and true -/
def OutTT (w : World) (b : Bool) (L : List Tn) (e : Ending) (w' : World) : Prop := (b = false → e = .returned (.tuple #[.slice none 0 0, .bool false])) ∧ (b = true → ∃ g cap, e = .returned (.tuple #[.slice (some ⟨g, 0, none⟩) L.length cap, .bool true]) ∧ w.heap.size ≤ g ∧ Flat w' g 52 (flatTn L) ∧ L.length ≤ cap) ∧ Below w.heap.size w w'
theorem tt_no {w w' : World} {L : List Tn} {e : Ending} (he : e = .returned (.tuple #[.slice none 0 0, .bool false])) (h : Below w.heap.size w w') : OutTT w false L e w' := ⟨fun _ => he, (fun c => by cases c), h⟩
theorem tt_yes {w w' : World} {L : List Tn} {g cap n : Nat} {e : Ending} (he : e = .returned (.tuple #[.slice (some ⟨g, 0, none⟩) n cap, .bool true])) (hn : n = L.length) (hg : w.heap.size ≤ g) (hF : Flat w' g 52 (flatTn L)) (hc : L.length ≤ cap) (h : Below w.heap.size w w') : OutTT w true L e w' := ⟨(fun c => by cases c), fun _ => ⟨g, cap, by rw [he, hn], hg, hF, hc⟩, h⟩
theorem own_nextT {w w' : World} {base n : Nat} {v : Value} {xs : List Value} (h : w.ownsRow base 52 2 v n xs) (hb : Below w.heap.size w w') : w'.ownsRow base 52 2 v n xs := by
  refine ⟨h.1, ?_⟩
  rcases h.2 with h0 | ⟨g, cap, cur, a, b, c, d⟩
  · exact .inl h0
  · refine .inr ⟨g, cap, cur, a, b, ?_, d⟩
    have hg : g < w.heap.size := (World.ownsRow.lt h g (by rw [a]; rfl)).2
    rw [hb.block g hg]; exact c
theorem own_unitsT {w : World} {base : Nat} {v : Value} {hs : List Hd} (h : w.ownsRow base 3 1 v hs.length ((unR hs).map (Value.int .i64))) : ∃ (b : Option Addr) (cap : Nat), v = .slice b hs.length cap ∧ IsInts w b (unR hs) := by
  have hl := un_len hs
  rw [← hl] at h
  obtain ⟨b, cap, e, i⟩ := own_ints h
  exact ⟨b, cap, by rw [e, hl], i⟩
theorem hs_at {w wr : World} {g o : Nat} {hs : List Hd} (h : ∀ i, i < hs.length → w.cell? ⟨g, o + i * 3, none⟩ = some (.int .i64 (hs.getD i hd0).1) ∧ w.cell? ⟨g, o + i * 3 + 1, none⟩ = some (.int .i64 (hs.getD i hd0).2.1) ∧ w.cell? ⟨g, o + i * 3 + 2, none⟩ = some (.int .i64 (hs.getD i hd0).2.2)) (hB : Below w.heap.size w wr) {k : Nat} (hk : k < hs.length) : wr.cell? ⟨g, o + k * 3, none⟩ = some (.int .i64 (hs.getD k hd0).1) :=
  (hB.cell (p := ⟨g, o + k * 3, none⟩) (World.block_lt_of_cell? w _ (h k hk).1)).trans (h k hk).1
end Go.Proofs.Ytonoallohalhgaa
