/- P12: nothing is nearer than the greatest remainders: a unit moved, and other divisions. Conditions: those stated. -/
import Derived.Test.YtlpmeljneogpiabMathR
import Derived.Test.YtlpmeljneogpiabAvgS
namespace Go.Proofs.Ytlpmeljneogpiab

theorem le_sum : ∀ (l : List Int), (∀ i, i < l.length → 0 ≤ l.getD i 0) → 0 ≤ l.sum ∧ ∀ i, i < l.length → l.getD i 0 ≤ l.sum := by
  intro l
  induction l with
  | nil => intro _; exact ⟨Int.le_refl _, fun i hi => by simp at hi⟩
  | cons x l ih =>
    intro h
    have h0 : 0 ≤ x := h 0 (by simp)
    obtain ⟨a, b⟩ := ih (fun i hi => h (i + 1) (by simp; omega))
    rw [List.sum_cons]
    refine ⟨by omega, fun i hi => ?_⟩
    cases i with
    | zero => show x ≤ _; omega
    | succ i => have := b i (by simp at hi; omega); show l.getD i 0 ≤ _; omega
/-- one unit moved from c to a -/
def mv (l : List Int) (a c : Nat) : List Int := (l.set a (l.getD a 0 + 1)).set c ((l.set a (l.getD a 0 + 1)).getD c 0 - 1)
theorem mv_len (l : List Int) (a c : Nat) : (mv l a c).length = l.length := by unfold mv; rw [List.length_set, List.length_set]
theorem mv_sum {l : List Int} {a c : Nat} (ha : a < l.length) (hc : c < l.length) : (mv l a c).sum = l.sum := by
  unfold mv
  rw [sum_set _ _ _ (by rw [List.length_set]; exact hc), sum_set _ _ _ ha]; omega
theorem mv_get {l : List Int} {a c : Nat} (ha : a < l.length) (hc : c < l.length) (i : Nat) : (mv l a c).getD i 0 = l.getD i 0 + (if i = a then 1 else 0) - (if i = c then 1 else 0) := by
  unfold mv
  rw [getD_set _ _ _ (by rw [List.length_set]; exact hc), getD_set _ _ _ ha, getD_set _ _ _ ha]
  by_cases e : i = c
  · subst e
    rw [if_pos rfl, if_pos rfl]
    by_cases e2 : i = a
    · subst e2; rw [if_pos rfl, if_pos rfl]
    · rw [if_neg e2, if_neg e2]; omega
  · rw [if_neg e, if_neg e]
    by_cases e2 : i = a
    · subst e2; rw [if_pos rfl, if_pos rfl]; omega
    · rw [if_neg e2, if_neg e2]; omega
theorem sr_500 {n : Int} {ws : List Int} (hcs : csB n ws = true) : allB (sr n ws) 500 = true := by
  have hl := sr_len n ws
  have h0 : ∀ i, i < (sr n ws).length → 0 ≤ (sr n ws).getD i 0 := fun i hi => (sr_bd hcs (by omega)).1
  have h1 := (le_sum _ h0).2
  rw [sr_sum hcs] at h1
  have := (cs_yes hcs).1
  exact allB_yes (fun i hi => ⟨h0 i hi, by have := h1 i hi; omega⟩)
theorem near_dist {n : Int} {ws ys : List Int} (hcs : csB n ws = true) (hl : ys.length = ws.length) (hs : ys.sum = n) (hb : allB ys 500 = true) : 0 ≤ distI (sr n ws) ws ∧ distI (sr n ws) ws ≤ distI ys ws := by
  obtain ⟨⟨n0, n1⟩, hv⟩ := cs_yes hcs
  have hol := sr_len n ws
  have e1 := dist_yes hv hol (sr_500 hcs) (by rw [sr_sum hcs]; exact n1)
  have e2 := dist_yes hv hl hb (by omega)
  rw [e1, e2, hol, hl]
  refine ⟨?_, near hcs hl hs⟩
  have := (dist_bd (div_of hv hol (sr_500 hcs) (by rw [sr_sum hcs]; exact n1)) ws.length (by omega)).1
  exact this
theorem near_mv {n : Int} {ws : List Int} (hcs : csB n ws = true) {a c : Nat} (ha : a < ws.length) (hc : c < ws.length) (h1 : 0 ≤ (mv (sr n ws) a c).getD c 0) (h2 : (mv (sr n ws) a c).getD a 0 ≤ 500) : distI (sr n ws) ws ≤ distI (mv (sr n ws) a c) ws := by
  have hl := sr_len n ws
  refine (near_dist hcs (by rw [mv_len, hl]) (by rw [mv_sum (by omega) (by omega), sr_sum hcs]) (allB_yes (fun i hi => ?_))).2
  rw [mv_len] at hi
  have hb := (allB_iff _ _).1 (sr_500 hcs) _ (getD_mem hi)
  have g := mv_get (l := sr n ws) (a := a) (c := c) (by omega) (by omega)
  rw [g] at h1 h2
  rw [g]
  by_cases e1 : i = a
  · subst e1
    rw [if_pos rfl] at h2 ⊢
    by_cases e2 : i = c
    · subst e2; rw [if_pos rfl]; omega
    · rw [if_neg e2] at h2 ⊢; omega
  · rw [if_neg e1]
    by_cases e2 : i = c
    · subst e2
      rw [if_neg e1, if_pos rfl] at h1
      rw [if_pos rfl]; omega
    · rw [if_neg e2]; omega
theorem near_sa {step n : Int} {ws : List Int} (hcs : csB n ws = true) (hs : 1 ≤ step ∧ step ≤ 2) : distI (sr n ws) ws ≤ distI (sa step n ws) ws := by
  obtain ⟨S, _, B⟩ := sa_facts hcs hs
  have hl := sa_len step n ws
  have := (cs_yes hcs).1
  exact (near_dist hcs hl S (allB_yes (fun i hi => by have := B i (by omega); omega))).2
theorem near_pos {n : Int} {ws : List Int} (hcs : csB n ws = true) : 0 ≤ distI (sr n ws) ws := (near_dist hcs (sr_len n ws) (sr_sum hcs) (sr_500 hcs)).1
theorem idistM (m : Nat) (a b : Option Addr) (ca cb : Nat) (gs ws : List Int) (w : World) (hg : gs.length = m) (hw : ws.length = m) (ha : IsInts w a gs) (hb : IsInts w b ws) (hn : m ≤ 1048576) :
    Calls Try.prog 34 #[.slice a m ca, .slice b m cb] w fun e w' => e = .returned (.int .i64 (distI gs ws)) ∧ w = w' := by
  have := idist a b ca cb gs ws w ha hb (by omega) (by omega)
  rw [hg, hw] at this; exact this
end Go.Proofs.Ytlpmeljneogpiab
