/- A weight that becomes 0 leaves more for the others (pure). No condition but those stated. -/
import Derived.Test.YtlpmeljneogpiabNodU
namespace Go.Proofs.Ytlpmeljneogpiab
set_option linter.unusedVariables false

/-- the first one of the greatest averages -/
structure First (ws gs : List Int) (m b : Nat) : Prop where
  lt : b < m
  le : ∀ j, j < m → ws.getD j 0 * (2 * gs.getD b 0 + 1) ≤ ws.getD b 0 * (2 * gs.getD j 0 + 1)
  ss : ∀ j, j < b → ws.getD j 0 * (2 * gs.getD b 0 + 1) < ws.getD b 0 * (2 * gs.getD j 0 + 1)
theorem lt_tr {x y z a b c : Int} (ha : 0 < a) (hb : 0 < b) (hc : 0 < c) (h1 : x * b ≤ y * a) (h2 : y * c < z * b) : x * c < z * a := by
  refine Int.not_le.1 (fun h => ?_)
  have := avg_trans (x := y) (y := x) (z := z) (a := b) (b := a) (c := c) ha hb hc h1 h
  omega
theorem pick_first {ws gs : List Int} (hp : ∀ j, 0 ≤ gs.getD j 0) : ∀ k, First ws gs (k + 1) (pickB (avgB 2 ws gs) (k + 1)) := by
  intro k
  have fp : ∀ j, 0 < 2 * gs.getD j 0 + 1 := fun j => by have := hp j; omega
  induction k with
  | zero =>
    have e : pickB (avgB 2 ws gs) (0 + 1) = 0 := by
      rw [pickB_succ]; show (if avgB 2 ws gs 0 0 then 0 else 0) = 0; split <;> rfl
    rw [e]
    exact ⟨by omega, fun j hj => by obtain rfl : j = 0 := by omega
                                    exact Int.le_refl _, fun j hj => absurd hj (Nat.not_lt_zero _)⟩
  | succ k ih =>
    obtain ⟨l, h1, h2⟩ := ih
    rw [pickB_succ]
    generalize pickB (avgB 2 ws gs) (k + 1) = b at l h1 h2 ⊢
    cases hR : avgB 2 ws gs (k + 1) b with
    | false =>
      have hr := avgB_false hR
      refine ⟨by show b < _; omega, fun j hj => ?_, h2⟩
      by_cases e : j = k + 1
      · subst e; exact hr
      · exact h1 j (by omega)
    | true =>
      have hr := avgB_true hR
      have hs : ∀ j, j < k + 1 → ws.getD j 0 * (2 * gs.getD (k + 1) 0 + 1) < ws.getD (k + 1) 0 * (2 * gs.getD j 0 + 1) := fun j hj => lt_tr (fp j) (fp b) (fp (k + 1)) (h1 j hj) hr
      refine ⟨by show k + 1 < _; omega, fun j hj => ?_, hs⟩
      by_cases e : j = k + 1
      · subst e; exact Int.le_refl _
      · exact Int.le_of_lt (hs j (by omega))
theorem first_one {ws gs : List Int} {m b c : Nat} (h : First ws gs m b) (h' : First ws gs m c) : b = c := by
  rcases Nat.lt_trichotomy b c with e | e | e
  · have a := h'.ss b e
    have d := h.le c h'.lt
    omega
  · exact e
  · have a := h.ss c e
    have d := h'.le b h.lt
    omega
theorem avg_grow (ws : List Int) (j : Nat) : ∀ d s, (avgTo 2 ws s).getD j 0 ≤ (avgTo 2 ws (s + d)).getD j 0 := by
  intro d
  induction d with
  | zero => intro s; exact Int.le_refl _
  | succ d ih =>
    intro s
    refine Int.le_trans (ih s) ?_
    show _ ≤ (avgTo 2 ws ((s + d) + 1)).getD j 0
    rw [avgTo_succ]
    by_cases hl : pickB (avgB 2 ws (avgTo 2 ws (s + d))) ws.length < (avgTo 2 ws (s + d)).length
    · rw [getD_setZ j _ hl]
      split
      · rename_i e; rw [e]; omega
      · exact Int.le_refl _
    · rw [List.set_eq_of_length_le (by omega)]; exact Int.le_refl _
theorem avg_nn {ws : List Int} (hv : vwB ws = true) {t : Nat} (ht : t ≤ 1000) (j : Nat) : 0 ≤ (avgTo 2 ws t).getD j 0 := by
  by_cases h : j < ws.length
  · exact ((avg_is hv (step := 2) (by omega) t ht).bd j h).1
  · rw [List.getD_eq_getElem?_getD, List.getElem?_eq_none (by rw [avgTo_len]; omega)]; exact Int.le_refl _
/-- the others get their units in the same order -/
theorem avg_same {ws : List Int} {i : Nat} (hv : vwB ws = true) (hi : i < ws.length) (hv' : vwB (ws.set i 0) = true) : ∀ t, t ≤ 1000 → ∃ s, s ≤ t ∧ ∀ j, j ≠ i → (avgTo 2 ws t).getD j 0 = (avgTo 2 (ws.set i 0) s).getD j 0 := by
  have hl' : (ws.set i 0).length = ws.length := List.length_set
  have hw : ∀ j, j ≠ i → (ws.set i 0).getD j 0 = ws.getD j 0 := fun j hj => by rw [getD_setZ j 0 hi, if_neg hj]
  have hwi : (ws.set i 0).getD i 0 = 0 := by rw [getD_setZ i 0 hi, if_pos rfl]
  intro t
  induction t with
  | zero =>
    intro _
    refine ⟨0, Nat.le_refl _, fun j _ => ?_⟩
    show (List.replicate ws.length (0 : Int)).getD j 0 = (List.replicate (ws.set i 0).length 0).getD j 0
    rw [hl']
  | succ t ih =>
    intro ht
    obtain ⟨s, hs, heq⟩ := ih (by omega)
    have H := avg_is hv (step := 2) (by omega) t (by omega)
    have hm : ws.length = (ws.length - 1) + 1 := by omega
    have hf : First ws (avgTo 2 ws t) ws.length (pickB (avgB 2 ws (avgTo 2 ws t)) ws.length) := by
      have := pick_first (ws := ws) (gs := avgTo 2 ws t) (avg_nn hv (by omega)) (ws.length - 1)
      rw [← hm] at this; exact this
    obtain ⟨_, hpos⟩ := avg_pos hv (step := 2) (by omega) (by omega) H
    have hsucc := avgTo_succ 2 ws t
    generalize pickB (avgB 2 ws (avgTo 2 ws t)) ws.length = b at hf hpos hsucc
    by_cases hb : b = i
    · refine ⟨s, by omega, fun j hj => ?_⟩
      rw [hsucc, getD_setZ j _ (by rw [avgTo_len]; exact hf.lt), if_neg (by omega)]
      exact heq j hj
    · have hf' : First (ws.set i 0) (avgTo 2 (ws.set i 0) s) ws.length b := by
        have hgi := avg_nn hv' (t := s) (by omega) i
        refine ⟨hf.lt, fun j hj => ?_, fun j hj => ?_⟩
        · by_cases e : j = i
          · subst e
            rw [hwi, Int.zero_mul, hw b hb]
            exact Int.mul_nonneg (Int.le_of_lt hpos) (by omega)
          · rw [hw j e, hw b hb, ← heq j e, ← heq b hb]; exact hf.le j hj
        · by_cases e : j = i
          · subst e
            rw [hwi, Int.zero_mul, hw b hb]
            exact Int.mul_pos hpos (by omega)
          · rw [hw j e, hw b hb, ← heq j e, ← heq b hb]; exact hf.ss j hj
      have hp' : First (ws.set i 0) (avgTo 2 (ws.set i 0) s) ws.length (pickB (avgB 2 (ws.set i 0) (avgTo 2 (ws.set i 0) s)) (ws.set i 0).length) := by
        have := pick_first (ws := ws.set i 0) (gs := avgTo 2 (ws.set i 0) s) (avg_nn hv' (by omega)) (ws.length - 1)
        rw [← hm] at this
        rw [hl']; exact this
      have hbb := first_one hp' hf'
      refine ⟨s + 1, by omega, fun j hj => ?_⟩
      rw [hsucc, avgTo_succ, hbb, getD_setZ j _ (by rw [avgTo_len]; exact hf.lt), getD_setZ j _ (by rw [avgTo_len, hl']; exact hf.lt)]
      by_cases e : j = b
      · subst e; rw [if_pos rfl, if_pos rfl, heq j hj]
      · rw [if_neg e, if_neg e]; exact heq j hj
theorem sa_others {n : Int} {ws : List Int} {i j : Nat} (hcs : csB n ws = true) (hi : i < ws.length) (hv' : vwB (ws.set i 0) = true) (hj : j ≠ i) : (sa 2 n ws).getD j 0 ≤ (sa 2 n (ws.set i 0)).getD j 0 := by
  obtain ⟨⟨a, b⟩, hv⟩ := cs_yes hcs
  obtain ⟨s, hs, he⟩ := avg_same hv hi hv' n.toNat (by omega)
  show (avgTo 2 ws n.toNat).getD j 0 ≤ (avgTo 2 (ws.set i 0) n.toNat).getD j 0
  rw [he j hj]
  have := avg_grow (ws.set i 0) j (n.toNat - s) s
  rw [show s + (n.toNat - s) = n.toNat from by omega] at this
  exact this
theorem le_sumZ : ∀ (l : List Int), (∀ i, i < l.length → 0 ≤ l.getD i 0) → 0 ≤ l.sum ∧ ∀ i, i < l.length → l.getD i 0 ≤ l.sum := by
  intro l
  induction l with
  | nil => intro _; exact ⟨Int.le_refl _, fun i h => absurd h (Nat.not_lt_zero _)⟩
  | cons x t ih =>
    intro h
    have h0 : 0 ≤ x := h 0 (by simp)
    obtain ⟨a, b⟩ := ih (fun i hi => h (i + 1) (by simpa using hi))
    rw [List.sum_cons]
    refine ⟨by omega, fun i hi => ?_⟩
    cases i with
    | zero => show x ≤ _; omega
    | succ i => have := b i (by simpa using hi); show t.getD i 0 ≤ _; omega
/-- the weights of kids, with a gate that is shut -/
theorem wts_gate {ns : List Nd} {k p i : Nat} (hk : k < ns.length) (hi : i < (kidsF ns (p : Int)).length) (he : (kidsF ns (p : Int)).getD i 0 = (k : Int)) : wts (sgL ns (k : Int) 0) (p : Int) = (wts ns (p : Int)).set i 0 := by
  have hwl : (wts ns (p : Int)).length = (kidsF ns (p : Int)).length := by unfold wts; rw [wk_len]
  refine ext_z (by rw [List.length_set, hwl]; unfold wts; rw [wk_len, kids_gate hk]) (fun j hj => ?_)
  unfold wts at hj
  rw [wk_len, kids_gate hk] at hj
  rw [getD_setZ j 0 (by rw [hwl]; exact hi)]
  unfold wts
  rw [wk_get _ _ (by rw [kids_gate hk]; exact hj), kids_gate hk, sgL_get hk]
  by_cases e : j = i
  · subst e; rw [he, if_pos (by omega), if_pos rfl]
  · rw [if_neg e, wk_get _ _ hj]
    have hne : ((kidsF ns (p : Int)).getD j 0).toNat ≠ k := fun c => by
      rcases Nat.lt_or_gt_of_ne e with h | h
      · have := kid_ne (ns := ns) (at_ := (p : Int)) j i h hi
        rw [he] at this; omega
      · have := kid_ne (ns := ns) (at_ := (p : Int)) i j h hj
        rw [he] at this; omega
    rw [if_neg hne]
theorem wts_apart {ns : List Nd} {k q : Nat} (hk : k < ns.length) (hq : (ns.getD k nd0).1 ≠ (q : Int)) : wts (sgL ns (k : Int) 0) (q : Int) = wts ns (q : Int) := by
  refine ext_z (by unfold wts; rw [wk_len, wk_len, kids_gate hk]) (fun j hj => ?_)
  unfold wts at hj ⊢
  rw [wk_len, kids_gate hk] at hj
  rw [wk_get _ _ (by rw [kids_gate hk]; exact hj), wk_get _ _ hj, kids_gate hk, sgL_get hk]
  obtain ⟨m, hm, _, hp⟩ := kid_at hj
  rw [hm, show ((m : Int)).toNat = m from by omega, if_neg (fun c => by subst c; exact hq hp)]
/-- above the gate nothing changes -/
theorem come_above {ns : List Nd} (hv : vnB ns = true) {k p : Nat} (hk : k < ns.length) (hp : (ns.getD k nd0).1 = (p : Int)) (hpk : p < k) {fl : Int} (hf : 0 ≤ fl ∧ fl ≤ 500) : ∀ j, j ≤ p → (comeF (sgL ns (k : Int) 0) fl).getD j 0 = (comeF ns fl).getD j 0 := by
  have hv2 := vn_gate hv hk (w := 0) (by omega) (by omega)
  intro j
  induction j using Nat.strongRecOn with
  | ind j ih =>
    intro hj
    by_cases h0 : j = 0
    · subst h0; rw [come_spring hv, come_spring hv2]
    · obtain ⟨q0, q1⟩ := vn_par hv (k := j) (by omega) (by omega)
      obtain ⟨q, hq⟩ : ∃ q : Nat, (ns.getD j nd0).1 = (q : Int) := ⟨(ns.getD j nd0).1.toNat, by omega⟩
      obtain ⟨i, hi, he⟩ := kid_pos hq (by omega)
      have a := come_kid hv hf (k := q) (by omega) hi
      have b := come_kid hv2 hf (k := q) (by rw [sgL_len]; omega) (i := i) (by rw [kids_gate hk]; exact hi)
      have e1 : (sgL ns (k : Int) 0).getD q nd0 = ns.getD q nd0 := by rw [sgL_get hk, if_neg (by omega)]
      rw [kids_gate hk, wts_apart hk (by omega), e1, ih q (by omega) (by omega)] at b
      rw [he, show ((j : Int)).toNat = j from by omega] at a b
      rw [a, b]
/-- P62 -/
theorem gate_others {ns : List Nd} (hv : vnB ns = true) {k p : Nat} (hk : k < ns.length) (hp : (ns.getD k nd0).1 = (p : Int)) (hpk : p < k) {fl : Int} (hf : 0 ≤ fl ∧ fl ≤ 500) {j : Nat} (hj : j < (kidsF ns (p : Int)).length) (hne : (kidsF ns (p : Int)).getD j 0 ≠ (k : Int)) :
    (comeF ns fl).getD ((kidsF ns (p : Int)).getD j 0).toNat 0 ≤ (comeF (sgL ns (k : Int) 0) fl).getD ((kidsF ns (p : Int)).getD j 0).toNat 0 := by
  have hv2 := vn_gate hv hk (w := 0) (by omega) (by omega)
  obtain ⟨i, hi, he⟩ := kid_pos hp hk
  have hji : j ≠ i := fun c => by subst c; exact hne he
  have a := come_kid hv hf (k := p) (by omega) hj
  have b := come_kid hv2 hf (k := p) (by rw [sgL_len]; omega) (i := j) (by rw [kids_gate hk]; exact hj)
  have e1 : (sgL ns (k : Int) 0).getD p nd0 = ns.getD p nd0 := by rw [sgL_get hk, if_neg (by omega)]
  rw [kids_gate hk, wts_gate hk hi he, e1, come_above hv hk hp hpk hf p (Nat.le_refl _)] at b
  have hwl : (wts ns (p : Int)).length = (kidsF ns (p : Int)).length := by unfold wts; rw [wk_len]
  have hc := come_bd hv hf p
  rw [a, b]
  by_cases h' : vwB ((wts ns (p : Int)).set i 0) = true
  · rw [if_pos h']
    by_cases h : vwB (wts ns (p : Int)) = true
    · rw [if_pos h]
      exact sa_others (csB_pass hv (k := p) (by omega) hc.1 h) (by rw [hwl]; exact hi) h' hji
    · rw [if_neg h]
      obtain ⟨_, q2, q3, _⟩ := vn_at hv (k := p) (by omega)
      have hpb := pass_bd (x := ns.getD p nd0) q3.1 hc.1 q2.1
      exact ((sa_facts (n := passV (ns.getD p nd0) ((comeF ns fl).getD p 0)) (ws := (wts ns (p : Int)).set i 0) (by rw [cs_is (by omega)]; exact h') (step := 2) (by omega)).2.2 j (by rw [List.length_set, hwl]; exact hj)).1
  · rw [if_neg h']
    by_cases h : vwB (wts ns (p : Int)) = true
    · rw [if_pos h]
      have hz : (wts ns (p : Int)).getD j 0 = 0 := by
        by_cases c : (wts ns (p : Int)).getD j 0 = 0
        · exact c
        · refine absurd ?_ h'
          have hb0 := wts_bd hv (p : Int)
          have hset : ∀ q, q < ((wts ns (p : Int)).set i 0).length → 0 ≤ ((wts ns (p : Int)).set i 0).getD q 0 ∧ ((wts ns (p : Int)).set i 0).getD q 0 ≤ 1000 := fun q hq => by
            rw [List.length_set] at hq
            rw [getD_setZ q 0 (by rw [hwl]; exact hi)]
            split
            · omega
            · exact hb0 _ (getD_mem hq)
          have hle := (le_sumZ ((wts ns (p : Int)).set i 0) (fun q hq => (hset q hq).1)).2 j (by rw [List.length_set, hwl]; exact hj)
          rw [getD_setZ j 0 (by rw [hwl]; exact hi), if_neg hji] at hle
          have hj0 := hb0 _ (getD_mem (zs := wts ns (p : Int)) (k := j) (by rw [hwl]; exact hj))
          rw [vw_sum (allB_yes hset) (by rw [List.length_set]; exact wts_len hv _)]
          exact decide_eq_true (by omega)
      rw [sa_zero (csB_pass hv (k := p) (by omega) hc.1 h) (by rw [hwl]; exact hj) hz]
      exact Int.le_refl _
    · rw [if_neg h]; exact Int.le_refl _
end Go.Proofs.Ytlpmeljneogpiab
