/- Claims by the model: valid ones, equal gains, equal losses. Condition: at most 1048576 numbers. -/
import Derived.Test.YtigapnbpgbfbhacClmI
import Derived.Test.YtigapnbpgbfbhacGrA
import Derived.Deep.QuietTactic
import Derived.BigQuiet
namespace Go.Proofs.Ytigapnbpgbfbhac
open Go.RowKit
set_option linter.unusedSimpArgs false
set_option linter.unusedVariables false
theorem fair_bd {cs gs : List Int} {n : Int} (h : Fair cs gs n) (hn : n ≤ 6000) {q : Nat} (hq : q < cs.length) : 0 ≤ gs.getD q 0 ∧ gs.getD q 0 ≤ 6000 := by
  have x1 := h.2.2.1 q hq
  have x3 := sum_setZ gs q 0 (by rw [h.1]; exact hq)
  have x5 : 0 ≤ (gs.set q 0).sum := by
    have := sum_leZ (List.replicate cs.length 0) (gs.set q 0) (by rw [List.length_set, List.length_replicate, h.1]) (fun i hi => by
      rw [List.length_replicate] at hi
      rw [rep_get, getD_setZ i _ (by rw [h.1]; exact hq)]
      split
      · exact Int.le_refl _
      · exact (h.2.2.1 i hi).1)
    rwa [rep_sum] at this
  have := h.2.1
  omega
set_option maxRecDepth 100000 in
set_option maxHeartbeats 4000000 in
/-- spec.copyInts -/
theorem scopyN (a : Option Addr) (ca : Nat) (zs : List Int) (w : World) (h : IsInts w a zs) (hn : zs.length ≤ 1048576) :
    Calls Try.prog 65 #[.slice a zs.length ca] w (OutI w zs) := by
  have HA := Lib.hid h
  clear h
  go_enter Try.func65, Try.ntmps65
  go_wp2_with (first | (at_builtin; refine wp_joinI rfl _ _ rfl rfl (OwnI.new (Below.refl w.heap.size w)) rfl rfl (ints_below HA.out ((Below.refl _ w).alloc (Nat.le_refl _) _)) (by show 0 + _ ≤ _; omega) (by simp) ?_; intro v1 w1 Q1 G1 n1; have B1 : Below w.heap.size w w1 := below_gv ((Below.refl w.heap.size w).alloc (Nat.le_refl _) _) G1 (fun q hq => (OwnI.new (Below.refl w.heap.size w)).grow q hq); rw [List.nil_append] at Q1; have HF := Lib.hid (And.intro Q1 B1); clear Q1 B1 G1 n1))
  go_ret
  exact ⟨_, rfl, HF.out⟩
theorem lossN_step {cs : List Int} {u q : Nat} (e : lastTo cs (lossN cs u) cs.length = (q : Int)) : lossN cs (u + 1) = (lossN cs u).set q ((lossN cs u).getD q 0 - 1) := by
  show stepL cs (lossN cs u) = _; unfold stepL; rw [e, show ((q : Int)).toNat = q by omega]
theorem loss_at {cs : List Int} (hc : ∀ i, i < cs.length → 0 ≤ cs.getD i 0) {u : Nat} (hu : (u : Int) < cs.sum) : ∃ q : Nat, lastTo cs (lossN cs u) cs.length = (q : Int) ∧ q < cs.length ∧ 0 < (lossN cs u).getD q 0 := by
  rcases last_is cs (lossN cs u) cs.length with ⟨_, no⟩ | ⟨q, e, hq, h0, _⟩
  · exfalso
    have F := (lossT_fair hc (u := u) (by omega)).1
    rw [← loss_fill hc u (by omega)] at F
    have := sum_leZ (lossN cs u) (List.replicate cs.length 0) (by rw [List.length_replicate, loss_fill hc u (by omega), lossT_len]) (fun i hi => by
      rw [loss_fill hc u (by omega), lossT_len] at hi
      have := no i hi
      rw [rep_get]; omega)
    rw [rep_sum] at this
    omega
  · exact ⟨q, e, hq, h0⟩
theorem lossN_len {cs : List Int} : ∀ u, (lossN cs u).length = cs.length := by
  intro u
  induction u with
  | zero => rfl
  | succ u ih => show (stepL _ _).length = _; unfold stepL; rw [List.length_set]; exact ih
theorem lossN_bd {cs : List Int} (hc : ∀ i, i < cs.length → 0 ≤ cs.getD i 0) {u : Nat} (hu : (u : Int) ≤ cs.sum) {i : Nat} (hi : i < cs.length) : 0 ≤ (lossN cs u).getD i 0 ∧ (lossN cs u).getD i 0 ≤ cs.getD i 0 := by
  rw [loss_fill hc u hu]; exact (lossT_fair hc hu).2.1 i hi
end Go.Proofs.Ytigapnbpgbfbhac
