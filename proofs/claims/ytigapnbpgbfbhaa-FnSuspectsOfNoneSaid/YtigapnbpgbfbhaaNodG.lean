/- Gates that are set, by the program and by the model. Condition: at most 1048576 nodes. -/
import Derived.Test.YtigapnbpgbfbhaaGrB
namespace Go.Proofs.Ytigapnbpgbfbhaa
open Go.RowKit
set_option linter.unusedSimpArgs false
set_option linter.unusedVariables false

theorem flatNd_gate : ∀ (ns : List Nd) (k : Nat) (x : Int), k < ns.length → (flatNd ns).set (k * 5 + 1) x = flatNd (ns.set k ((ns.getD k nd0).1, x, (ns.getD k nd0).2.2)) := by
  intro ns
  induction ns with
  | nil => intro k x h; simp at h
  | cons h t ih =>
    intro k x hk
    cases k with
    | zero => rfl
    | succ k =>
      have := ih k x (by simpa using hk)
      rw [show (k + 1) * 5 + 1 = k * 5 + 1 + 1 + 1 + 1 + 1 + 1 from by omega]
      show h.1 :: h.2.1 :: h.2.2.1 :: h.2.2.2.1 :: h.2.2.2.2 :: ((flatNd t).set (k * 5 + 1) x) = _
      rw [this]; rfl
def sgB (ns : List Nd) (at_ wt : Int) : Bool := vnB ns && inN ns.length at_ && (decide (0 ≤ wt) && decide (wt ≤ 1000))
def sgL (ns : List Nd) (at_ wt : Int) : List Nd := ns.set at_.toNat ((ns.getD at_.toNat nd0).1, wt, (ns.getD at_.toNat nd0).2.2)
theorem gate_no {ns : List Nd} {at_ wt : Int} (h : vnB ns = false ∨ inN ns.length at_ = false ∨ (decide (0 ≤ wt) && decide (wt ≤ 1000)) = false) : sgB ns at_ wt = false := by
  unfold sgB; rcases h with h | h | h <;> rw [h] <;> simp
/-- what a function that hands back nodes leaves: nil, or nodes in memory of its own -/
def OutNd (w : World) (b : Bool) (L : List Nd) (e : Ending) (w' : World) : Prop := (b = false → e = .returned (.slice none 0 0)) ∧ (b = true → ∃ g cap, e = .returned (.slice (some ⟨g, 0, none⟩) L.length cap) ∧ w.heap.size ≤ g ∧ Flat w' g 47 (flatNd L) ∧ L.length ≤ cap) ∧ Below w.heap.size w w'
theorem outNd_no {w w' : World} {L : List Nd} {e : Ending} (he : e = .returned (.slice none 0 0)) (h : Below w.heap.size w w') : OutNd w false L e w' := ⟨fun _ => he, (fun c => by cases c), h⟩
theorem outNd_yes {w w' : World} {L : List Nd} {g cap n : Nat} {e : Ending} (he : e = .returned (.slice (some ⟨g, 0, none⟩) n cap)) (hn : n = L.length) (hg : w.heap.size ≤ g) (hF : Flat w' g 47 (flatNd L)) (hc : L.length ≤ cap) (h : Below w.heap.size w w') : OutNd w true L e w' :=
  ⟨(fun c => by cases c), fun _ => ⟨g, cap, by rw [he, hn], hg, hF, hc⟩, h⟩
theorem flat_newNd {w1 : World} {base : Nat} {v1 : Value} {ns : List Nd} (h : w1.ownsRow base 47 5 v1 (0 + ns.length) ([] ++ valsNd ns)) (hn : 1 ≤ ns.length) : ∃ g cap, v1 = .slice (some ⟨g, 0, none⟩) ns.length cap ∧ base ≤ g ∧ Flat w1 g 47 (flatNd ns) ∧ ns.length ≤ cap := by
  rw [Nat.zero_add, List.nil_append] at h
  rcases Flat.own (zs := flatNd ns) h with ⟨_, hz⟩ | r
  · omega
  · exact r
theorem gate_flat {w : World} {g k : Nat} {ns : List Nd} {x : Int} (hF : Flat w g 47 (flatNd ns)) (hk : k < ns.length) : Flat (w.setCell ⟨g, k * 5 + 1, none⟩ (.int .i64 x)) g 47 (flatNd (sgL ns (k : Int) x)) := by
  have hl := flatNd_len ns
  have a := hF.set_ (i := k * 5 + 1) (by omega) x
  rw [flatNd_gate ns k x hk] at a
  exact a
end Go.Proofs.Ytigapnbpgbfbhaa
