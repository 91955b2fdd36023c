/- Plots without one of them, as a list of the call's own. No condition but those stated. -/
import Derived.Test.YtigapnbpgbfbhacPl
import Derived.Test.YtigapnbpgbfbhacGrA
namespace Go.Proofs.Ytigapnbpgbfbhac
open Go.RowKit
set_option linter.unusedVariables false
theorem own_emptyPl (w : World) : (w.alloc (.cells #[] 45)).ownsRow w.heap.size 45 2 (.slice (some ⟨w.heap.size, 0, none⟩) 0 0) 0 [] := ⟨rfl, .inr ⟨w.heap.size, 0, #[], rfl, Nat.le_refl _, Blk.new _ _ _, Nat.le_refl _, by unfold maxLen; omega, rfl, rfl⟩⟩
theorem take_readsPl {w : World} {g o : Nat} {xs : List Pl} (h : IsPl w (some ⟨g, o, none⟩) xs) {k : Nat} (hk : k ≤ xs.length) : Reads w w.heap.size 2 (some ⟨g, o, none⟩) k (valsPl (xs.take k)) := by
  have hl : (xs.take k).length = k := by rw [List.length_take]; omega
  have h2 : IsPl w (some ⟨g, o, none⟩) (xs.take k) := by
    rcases h with rfl | ⟨g', o', e, hc⟩
    · simp; exact .inl rfl
    · injection e with e
      injection e with e1 e2
      subst e1 e2
      exact pl_take hc k
  have := pl_reads h2
  rwa [hl] at this
theorem drop_readsPl {w : World} {g o : Nat} {xs : List Pl} {cap : Nat} (h : IsPl w (some ⟨g, o, none⟩) xs) {k : Nat} (hk : k ≤ xs.length) (hc : xs.length ≤ cap) : Reads w w.heap.size 2 (if cap = k then some ⟨g, o, none⟩ else some ⟨g, o + k * 2, none⟩) (xs.length - k) (valsPl (xs.drop k)) := by
  have := (pl_reads h).cut hk hc
  have e : (valsPl xs).drop (k * 2) = valsPl (xs.drop k) := by unfold valsPl; rw [← List.map_drop, flatPl_drop]
  rw [e] at this
  have e2 : Option.map (fun a : Addr => a.add (k * 2)) (some (⟨g, o, none⟩ : Addr)) = some ⟨g, o + k * 2, none⟩ := by
    show some ((⟨g, o, none⟩ : Addr).add (k * 2)) = _
    rw [add_off]
  rwa [e2] at this
theorem own_bothPl {w : World} {base : Nat} {v : Value} {xs : List Pl} {k : Nat} (h : w.ownsRow base 45 2 v (0 + k + (xs.length - (k + 1))) (([] ++ valsPl (xs.take k)) ++ valsPl (xs.drop (k + 1)))) (hk : k < xs.length) : ∃ (b : Option Addr) (cap : Nat), v = .slice b (xs.take k ++ xs.drop (k + 1)).length cap ∧ IsPl w b (xs.take k ++ xs.drop (k + 1)) := by
  have hl : (xs.take k ++ xs.drop (k + 1)).length = 0 + k + (xs.length - (k + 1)) := by rw [List.length_append, List.length_take, List.length_drop]; omega
  refine own_pl (base := base) ?_
  unfold OwnPl
  rw [hl, valsPl_append]
  rw [List.nil_append] at h
  exact h
theorem own_capPl {w : World} {base n : Nat} {v : Value} {cs : List Value} (h : w.ownsRow base 45 2 v n cs) : ∀ b m c, v = .slice b m c → m ≤ c := fun b m c e => by
  rcases h.2 with ⟨hv, hn⟩ | ⟨g', cap', cur, hv, hg, hb, hc, _⟩
  · rw [hv] at e; injection e with e1 e2 e3; omega
  · rw [hv] at e; injection e with e1 e2 e3; omega
end Go.Proofs.Ytigapnbpgbfbhac
