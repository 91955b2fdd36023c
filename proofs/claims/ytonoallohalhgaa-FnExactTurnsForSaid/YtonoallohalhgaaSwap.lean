/- Turns that are exchanged, by the program and by the model. Condition: at most 1048576 turns. -/
import Derived.Test.YtonoallohalhgaaTurnW
import Derived.Test.YtonoallohalhgaaTurnS
namespace Go.Proofs.Ytonoallohalhgaa
open Go.RowKit
set_option linter.unusedSimpArgs false
set_option linter.unusedVariables false

theorem flatTn_set : ∀ (ts : List Tn) (k : Nat) (x : Tn), k < ts.length → ((flatTn ts).set (k * 2) x.1).set (k * 2 + 1) x.2 = flatTn (ts.set k x) := by
  intro ts
  induction ts with
  | nil => intro k x h; simp at h
  | cons h t ih =>
    intro k x hk
    cases k with
    | zero => rfl
    | succ k =>
      have := ih k x (by simpa using hk)
      rw [show (k + 1) * 2 = k * 2 + 1 + 1 from by omega]
      show h.1 :: h.2 :: ((flatTn t).set (k * 2) x.1).set (k * 2 + 1) x.2 = _
      rw [this]; rfl
/-- what a function that hands back turns leaves: nil, or turns in memory of its own -/
def OutTn (w : World) (b : Bool) (L : List Tn) (e : Ending) (w' : World) : Prop := (b = false → e = .returned (.slice none 0 0)) ∧ (b = true → ∃ g cap, e = .returned (.slice (some ⟨g, 0, none⟩) L.length cap) ∧ w.heap.size ≤ g ∧ Flat w' g 52 (flatTn L) ∧ L.length ≤ cap) ∧ Below w.heap.size w w'
theorem out_no {w w' : World} {L : List Tn} {e : Ending} (he : e = .returned (.slice none 0 0)) (h : Below w.heap.size w w') : OutTn w false L e w' := ⟨fun _ => he, (fun c => by cases c), h⟩
theorem out_yes {w w' : World} {L : List Tn} {g cap n : Nat} {e : Ending} (he : e = .returned (.slice (some ⟨g, 0, none⟩) n cap)) (hn : n = L.length) (hg : w.heap.size ≤ g) (hF : Flat w' g 52 (flatTn L)) (hc : L.length ≤ cap) (h : Below w.heap.size w w') : OutTn w true L e w' := ⟨(fun c => by cases c), fun _ => ⟨g, cap, by rw [he, hn], hg, hF, hc⟩, h⟩
def inB (ts : List Tn) (i : Int) : Bool := decide (0 ≤ i) && decide (i < (ts.length : Int))
def swB (ts : List Tn) (i k : Int) : Bool := vtB ts && inB ts i && inB ts k
def swL (ts : List Tn) (i k : Int) : List Tn := (ts.set i.toNat (ts.getD k.toNat tn0)).set k.toNat (ts.getD i.toNat tn0)
theorem in_no {ts : List Tn} {i : Int} (h : inB ts i = false) : i < 0 ∨ (ts.length : Int) - 1 < i := by
  have : ¬ (0 ≤ i ∧ i < (ts.length : Int)) := fun c => by unfold inB at h; rw [decide_eq_true c.1, decide_eq_true c.2] at h; cases h
  omega
theorem in_yes {ts : List Tn} {i : Int} (h : inB ts i = true) : ∃ k : Nat, i = (k : Int) ∧ k < ts.length := by
  unfold inB at h
  simp only [Bool.and_eq_true, decide_eq_true_eq] at h
  exact ⟨i.toNat, by omega, by omega⟩
theorem swB_no {ts : List Tn} {i k : Int} (h : vtB ts = false ∨ inB ts i = false ∨ inB ts k = false) : swB ts i k = false := by
  unfold swB
  rcases h with h | h | h <;> rw [h] <;> simp
/-- a copy by append to an empty slice of its own -/
theorem flat_new {w1 : World} {base : Nat} {v1 : Value} {ts : List Tn} (h : w1.ownsRow base 52 2 v1 (0 + ts.length) ([] ++ valsTn ts)) (hn : 1 ≤ ts.length) : ∃ g cap, v1 = .slice (some ⟨g, 0, none⟩) ts.length cap ∧ base ≤ g ∧ Flat w1 g 52 (flatTn ts) ∧ ts.length ≤ cap := by
  rw [Nat.zero_add, List.nil_append] at h
  rcases Flat.own (zs := flatTn ts) h with ⟨_, hz⟩ | r
  · omega
  · exact r
/-- two stores of turns -/
theorem swapped {w1 : World} {g i k : Nat} {ts : List Tn} {x y : Tn} (hF : Flat w1 g 52 (flatTn ts)) (hi : i < ts.length) (hk : k < ts.length) :
    Flat ((w1.setCell ⟨g, i * 2, none⟩ (.int .i64 x.1)).setCell ⟨g, i * 2 + 1, none⟩ (.int .i64 x.2)) g 52 (flatTn (ts.set i x)) ∧
    Flat ((((w1.setCell ⟨g, i * 2, none⟩ (.int .i64 x.1)).setCell ⟨g, i * 2 + 1, none⟩ (.int .i64 x.2)).setCell ⟨g, k * 2, none⟩ (.int .i64 y.1)).setCell ⟨g, k * 2 + 1, none⟩ (.int .i64 y.2)) g 52 (flatTn ((ts.set i x).set k y)) := by
  have hl := flatTn_len ts
  have a := (hF.set_ (i := i * 2) (by omega) x.1).set_ (i := i * 2 + 1) (by rw [List.length_set]; omega) x.2
  rw [flatTn_set ts i x hi] at a
  have hl2 := flatTn_len (ts.set i x)
  rw [List.length_set] at hl2
  have b := (a.set_ (i := k * 2) (by omega) y.1).set_ (i := k * 2 + 1) (by rw [List.length_set]; omega) y.2
  rw [flatTn_set (ts.set i x) k y (by rw [List.length_set]; exact hk)] at b
  exact ⟨a, b⟩
/-- all that the walk of an exchange wants behind its copy -/
theorem swap_facts {w W w2 : World} {g0 o i k : Nat} {ts : List Tn} {v2 : Value} (hB : Below w.heap.size w W)
    (hc : ∀ i, i < ts.length → w.cell? ⟨g0, o + i * 2, none⟩ = some (.int .i64 (ts.getD i tn0).1) ∧ w.cell? ⟨g0, o + i * 2 + 1, none⟩ = some (.int .i64 (ts.getD i tn0).2))
    (hown : w2.ownsRow W.heap.size 52 2 v2 (0 + ts.length) ([] ++ valsTn ts)) (hg : (W.alloc (.cells #[] 52)).grownBy w2 (some W.heap.size)) (hi : i < ts.length) (hk : k < ts.length) :
    ∃ (g cp : Nat) (x0 x1 y0 y1 q0 q1 q2 q3 : Int), v2 = .slice (some ⟨g, 0, none⟩) ts.length cp ∧ w.heap.size ≤ g ∧ ts.length ≤ cp ∧
      w2.cell? ⟨g0, o + k * 2, none⟩ = some (.int .i64 x0) ∧ w2.cell? ⟨g0, o + k * 2 + 1, none⟩ = some (.int .i64 x1) ∧
      ((w2.setCell ⟨g, i * 2, none⟩ (.int .i64 x0)).setCell ⟨g, i * 2 + 1, none⟩ (.int .i64 x1)).cell? ⟨g0, o + i * 2, none⟩ = some (.int .i64 y0) ∧ ((w2.setCell ⟨g, i * 2, none⟩ (.int .i64 x0)).setCell ⟨g, i * 2 + 1, none⟩ (.int .i64 x1)).cell? ⟨g0, o + i * 2 + 1, none⟩ = some (.int .i64 y1) ∧
      w2.cell? ⟨g, i * 2, none⟩ = some (.int .i64 q0) ∧ w2.cell? ⟨g, i * 2 + 1, none⟩ = some (.int .i64 q1) ∧
      ((w2.setCell ⟨g, i * 2, none⟩ (.int .i64 x0)).setCell ⟨g, i * 2 + 1, none⟩ (.int .i64 x1)).cell? ⟨g, k * 2, none⟩ = some (.int .i64 q2) ∧ ((w2.setCell ⟨g, i * 2, none⟩ (.int .i64 x0)).setCell ⟨g, i * 2 + 1, none⟩ (.int .i64 x1)).cell? ⟨g, k * 2 + 1, none⟩ = some (.int .i64 q3) ∧
      w2.frozen? ⟨g, i * 2, none⟩ = false ∧ w2.frozen? ⟨g, i * 2 + 1, none⟩ = false ∧
      ((w2.setCell ⟨g, i * 2, none⟩ (.int .i64 x0)).setCell ⟨g, i * 2 + 1, none⟩ (.int .i64 x1)).frozen? ⟨g, k * 2, none⟩ = false ∧ ((w2.setCell ⟨g, i * 2, none⟩ (.int .i64 x0)).setCell ⟨g, i * 2 + 1, none⟩ (.int .i64 x1)).frozen? ⟨g, k * 2 + 1, none⟩ = false ∧
      Flat ((((w2.setCell ⟨g, i * 2, none⟩ (.int .i64 x0)).setCell ⟨g, i * 2 + 1, none⟩ (.int .i64 x1)).setCell ⟨g, k * 2, none⟩ (.int .i64 y0)).setCell ⟨g, k * 2 + 1, none⟩ (.int .i64 y1)) g 52 (flatTn ((ts.set i (ts.getD k tn0)).set k (ts.getD i tn0))) ∧
      Below w.heap.size w ((((w2.setCell ⟨g, i * 2, none⟩ (.int .i64 x0)).setCell ⟨g, i * 2 + 1, none⟩ (.int .i64 x1)).setCell ⟨g, k * 2, none⟩ (.int .i64 y0)).setCell ⟨g, k * 2 + 1, none⟩ (.int .i64 y1)) := by
  obtain ⟨g, cp, rfl, lg, F2, hcc⟩ := flat_new hown (by omega)
  have hsz := hB.size
  have lg2 : w.heap.size ≤ g := by omega
  have hB2 : Below w.heap.size w w2 := (hB.alloc hB.size _).grown hg (by simp; omega) (fun q hq => by have e : W.heap.size = q := Option.some.inj hq; omega)
  obtain ⟨F3, F4⟩ := swapped (x := ts.getD k tn0) (y := ts.getD i tn0) F2 hi hk
  have hB3 := (hB2.setCell (p := ⟨g, i * 2, none⟩) lg2 (.int .i64 (ts.getD k tn0).1)).setCell (p := ⟨g, i * 2 + 1, none⟩) lg2 (.int .i64 (ts.getD k tn0).2)
  have hB4 := (hB3.setCell (p := ⟨g, k * 2, none⟩) lg2 (.int .i64 (ts.getD i tn0).1)).setCell (p := ⟨g, k * 2 + 1, none⟩) lg2 (.int .i64 (ts.getD i tn0).2)
  obtain ⟨c0, c1⟩ := tn_at hc hB2 hk
  obtain ⟨d0, d1⟩ := tn_at hc hB3 hi
  have l2 := flatTn_len ts
  have l3 := flatTn_len (ts.set i (ts.getD k tn0))
  rw [List.length_set] at l3
  exact ⟨g, cp, _, _, _, _, _, _, _, _, rfl, lg2, hcc, c0, c1, d0, d1, F2.cell (j := i * 2) (by omega), F2.cell (j := i * 2 + 1) (by omega), F3.cell (j := k * 2) (by omega), F3.cell (j := k * 2 + 1) (by omega), F2.frozen _, F2.frozen _, F3.frozen _, F3.frozen _, F4, hB4⟩

end Go.Proofs.Ytonoallohalhgaa
