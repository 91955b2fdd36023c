/- Claims (pure): halves first, orders of turns, what nobody else claims, gaps, gifts. No condition but those stated. -/
import Derived.Test.YtigapnbpgbfbhacClmP
import Derived.Test.YtigapnbpgbfbhacGaps
import Derived.Test.YtigapnbpgbfbhacOrd
import Derived.Test.YtigapnbpgbfbhacWishP
namespace Go.Proofs.Ytigapnbpgbfbhac
set_option linter.unusedVariables false
set_option linter.unusedSimpArgs false

/-- all numbers are even -/
def evB (cs : List Int) : Bool := cs.all fun z => decide (z % 2 = 0)
theorem ev_iff (cs : List Int) : evB cs = true ↔ ∀ i, i < cs.length → cs.getD i 0 % 2 = 0 := by
  unfold evB
  rw [List.all_eq_true]
  constructor
  · intro h i hi; exact of_decide_eq_true (h _ (getD_mem hi))
  · intro h z hz
    obtain ⟨i, hi, rfl⟩ := List.getElem_of_mem hz
    have := h i hi
    rw [List.getD_eq_getElem?_getD, List.getElem?_eq_getElem hi] at this
    exact decide_eq_true this
/-- halves -/
def hv (cs : List Int) : List Int := cs.map (· / 2)
theorem hv_len (cs : List Int) : (hv cs).length = cs.length := by unfold hv; simp
theorem hv_get (cs : List Int) {i : Nat} (h : i < cs.length) : (hv cs).getD i 0 = cs.getD i 0 / 2 := by
  unfold hv
  rw [List.getD_eq_getElem?_getD, List.getD_eq_getElem?_getD, List.getElem?_map, List.getElem?_eq_getElem h]; rfl
theorem hv_rev (cs : List Int) : hv cs.reverse = (hv cs).reverse := by unfold hv; rw [List.map_reverse]
theorem ev_rev (cs : List Int) : evB cs.reverse = evB cs := by
  rw [Bool.eq_iff_iff]; unfold evB; simp
theorem hv_sum_le : ∀ cs : List Int, 2 * (hv cs).sum ≤ cs.sum := by
  intro cs
  induction cs with
  | nil => exact Int.le_refl _
  | cons x t ih => show 2 * ((x / 2) :: hv t).sum ≤ _; rw [List.sum_cons, List.sum_cons]; omega
/-- the halves are half of the whole just where all are even -/
theorem hv_ev : ∀ cs : List Int, (hv cs).sum * 2 = cs.sum ↔ evB cs = true := by
  intro cs
  induction cs with
  | nil => simp [hv, evB]
  | cons x t ih =>
    have e : (hv (x :: t)).sum = x / 2 + (hv t).sum := by show ((x / 2) :: hv t).sum = _; rw [List.sum_cons]
    have f : evB (x :: t) = (decide (x % 2 = 0) && evB t) := rfl
    have g := hv_sum_le t
    rw [e, f, List.sum_cons, Bool.and_eq_true, decide_eq_true_eq, ← ih]
    constructor
    · intro h; constructor <;> omega
    · rintro ⟨a, b⟩; omega
theorem hv_all {cs : List Int} (h : allB cs 500 = true) : allB (hv cs) 250 = true := by
  rw [allB_iff] at h ⊢
  intro z hz
  unfold hv at hz
  obtain ⟨y, hy, rfl⟩ := List.mem_map.1 hz
  have := h y hy; omega
theorem hv_all5 {cs : List Int} (h : allB cs 500 = true) : allB (hv cs) 500 = true := by
  have h2 := hv_all h
  rw [allB_iff] at h2 ⊢
  intro z hz; have := h2 z hz; omega
/-- what HalfFirst asks of its claims -/
def hfB (n : Int) (cs : List Int) : Bool := vcB n cs && evB cs
/-- HalfFirst -/
def halfV (n : Int) (cs : List Int) : List Int := if hfB n cs = true then (if n ≤ (hv cs).sum then gainV n (hv cs) else addZ (lossV (n - (hv cs).sum) (hv cs)) (hv cs)) else []
theorem half_no {n : Int} {cs : List Int} (h : hfB n cs = false) : halfV n cs = [] := by unfold halfV; rw [h]; rfl
theorem half_yes {n : Int} {cs : List Int} (h : hfB n cs = true) : halfV n cs = if n ≤ (hv cs).sum then gainV n (hv cs) else addZ (lossV (n - (hv cs).sum) (hv cs)) (hv cs) := if_pos h
theorem hf_is {n : Int} {cs : List Int} (h : hfB n cs = true) : vcB n cs = true ∧ evB cs = true ∧ (hv cs).sum * 2 = cs.sum ∧ allB (hv cs) 500 = true ∧ (hv cs).length ≤ 12 := by
  unfold hfB at h
  rw [Bool.and_eq_true] at h
  obtain ⟨a, b, _, _⟩ := vc_iff.1 h.1
  exact ⟨h.1, h.2, (hv_ev cs).2 h.2, hv_all5 a, by rw [hv_len]; exact b⟩
theorem hf_low {n : Int} {cs : List Int} (h : hfB n cs = true) (hn : n ≤ (hv cs).sum) : vcB n (hv cs) = true := by
  obtain ⟨a, b, c, d, e⟩ := hf_is h
  obtain ⟨_, _, x, _⟩ := vc_iff.1 a
  exact vc_iff.2 ⟨d, e, x, hn⟩
theorem hf_high {n : Int} {cs : List Int} (h : hfB n cs = true) (hn : ¬ n ≤ (hv cs).sum) : vcB (n - (hv cs).sum) (hv cs) = true := by
  obtain ⟨a, b, c, d, e⟩ := hf_is h
  obtain ⟨_, _, x, y⟩ := vc_iff.1 a
  exact vc_iff.2 ⟨d, e, by omega, by omega⟩
theorem half_len {n : Int} {cs : List Int} (h : hfB n cs = true) : (halfV n cs).length = cs.length := by
  rw [half_yes h]
  split
  · rename_i c; rw [gain_len (hf_low h c), hv_len]
  · rename_i c; rw [addZ_len, loss_len (hf_high h c), hv_len]
/-- a division of n units among claims -/
def Good (n : Int) (cs gs : List Int) : Prop := gs.length = cs.length ∧ gs.sum = n ∧ ∀ i, i < cs.length → 0 ≤ gs.getD i 0 ∧ gs.getD i 0 ≤ cs.getD i 0
theorem gain_good {n : Int} {cs : List Int} (h : vcB n cs = true) : Good n cs (gainV n cs) := by
  obtain ⟨a, b, c, _⟩ := gain_fair h; exact ⟨a, b, c⟩
theorem loss_good {n : Int} {cs : List Int} (h : vcB n cs = true) : Good n cs (lossV n cs) := by
  obtain ⟨a, b, _⟩ := loss_fair h; exact ⟨loss_len h, a, b⟩
/-- P83 -/
theorem half_good {n : Int} {cs : List Int} (h : hfB n cs = true) : Good n cs (halfV n cs) ∧ ∀ i, i < cs.length → (2 * n ≤ cs.sum → 2 * (halfV n cs).getD i 0 ≤ cs.getD i 0) ∧ (cs.sum ≤ 2 * n → cs.getD i 0 ≤ 2 * (halfV n cs).getD i 0) := by
  obtain ⟨hvc, hev, hs, ha, hl⟩ := hf_is h
  have ev := (ev_iff cs).1 hev
  rw [half_yes h]
  by_cases c : n ≤ (hv cs).sum
  · rw [if_pos c]
    obtain ⟨a1, a2, a3⟩ := gain_good (hf_low h c)
    rw [hv_len] at a1 a3
    have G : ∀ i, i < cs.length → 0 ≤ (gainV n (hv cs)).getD i 0 ∧ (gainV n (hv cs)).getD i 0 ≤ cs.getD i 0 / 2 := fun i hi => by
      have := a3 i hi; rwa [hv_get cs hi] at this
    refine ⟨⟨a1, a2, fun i hi => by have := G i hi; have := vc_nn hvc i hi; omega⟩, fun i hi => ⟨fun _ => by have := G i hi; omega, fun h2 => ?_⟩⟩
    -- n is just half: all halves are met
    have hn : n = (hv cs).sum := by omega
    have e : gainV n (hv cs) = hv cs := by
      refine ext_z (by rw [a1, hv_len]) (fun j hj => ?_)
      rw [a1] at hj
      rw [hv_get cs hj]
      have b := G j hj
      by_cases d : (gainV n (hv cs)).getD j 0 = cs.getD j 0 / 2
      · exact d
      · exfalso
        have t := sum_setZ (gainV n (hv cs)) j (cs.getD j 0 / 2) (by omega)
        have u := sum_leZ ((gainV n (hv cs)).set j (cs.getD j 0 / 2)) (hv cs) (by rw [List.length_set, a1, hv_len]) (fun k hk => by
          rw [List.length_set, a1] at hk
          rw [getD_setZ k _ (by omega), hv_get cs hk]
          by_cases f : k = j
          · rw [if_pos f, f]; exact Int.le_refl _
          · rw [if_neg f]; exact (G k hk).2)
        omega
    rw [e, hv_get cs hi]
    have := ev i hi; omega
  · rw [if_neg c]
    obtain ⟨a1, a2, a3⟩ := loss_good (hf_high h c)
    rw [hv_len] at a1 a3
    have G : ∀ i, i < cs.length → (addZ (lossV (n - (hv cs).sum) (hv cs)) (hv cs)).getD i 0 = (lossV (n - (hv cs).sum) (hv cs)).getD i 0 + cs.getD i 0 / 2 ∧ 0 ≤ (lossV (n - (hv cs).sum) (hv cs)).getD i 0 ∧ (lossV (n - (hv cs).sum) (hv cs)).getD i 0 ≤ cs.getD i 0 / 2 := fun i hi => by
      have := a3 i hi
      rw [hv_get cs hi] at this
      rw [addZ_get _ _ (by omega), hv_get cs hi]; exact ⟨rfl, this⟩
    refine ⟨⟨by rw [addZ_len, a1], by rw [addZ_sum (by rw [a1, hv_len]), a2]; omega, fun i hi => by obtain ⟨x, y, z⟩ := G i hi; rw [x]; have := vc_nn hvc i hi; omega⟩, fun i hi => ⟨fun h2 => by omega, fun _ => ?_⟩⟩
    obtain ⟨x, y, z⟩ := G i hi
    rw [x]
    have := ev i hi; omega
theorem revZ2_get (zs : List Int) {i : Nat} (h : i < zs.length) : zs.reverse.getD (zs.length - 1 - i) 0 = zs.getD i 0 := by
  rw [revZ_get _ (by omega), show zs.length - 1 - (zs.length - 1 - i) = i by omega]
theorem hf_turn {n : Int} {cs : List Int} (h : hfB n cs = true) : hfB (cs.sum - n) cs.reverse = true := by
  obtain ⟨a, b, _⟩ := hf_is h
  unfold hfB
  rw [vc_rev, ev_rev, vc_turn a, b]; rfl
/-- all of the claims -/
theorem gain_all {cs : List Int} (h : vcB cs.sum cs = true) : gainV cs.sum cs = cs := by
  obtain ⟨a1, a2, a3⟩ := gain_good h
  refine ext_z a1 (fun j hj => ?_)
  rw [a1] at hj
  by_cases d : (gainV cs.sum cs).getD j 0 = cs.getD j 0
  · exact d
  · exfalso
    have b := a3 j hj
    have t := sum_setZ (gainV cs.sum cs) j (cs.getD j 0) (by omega)
    have u := sum_leZ ((gainV cs.sum cs).set j (cs.getD j 0)) cs (by rw [List.length_set, a1]) (fun k hk => by
      rw [List.length_set, a1] at hk
      rw [getD_setZ k _ (by omega)]
      by_cases f : k = j
      · rw [if_pos f, f]; exact Int.le_refl _
      · rw [if_neg f]; exact (a3 k hk).2)
    omega
/-- P84 -/
theorem half_turned {n : Int} {cs : List Int} (h : hfB n cs = true) : (halfV (cs.sum - n) cs.reverse).reverse = subZ cs (halfV n cs) := by
  have ht := hf_turn h
  obtain ⟨hvc, hev, hs, ha, hl⟩ := hf_is h
  have ev := (ev_iff cs).1 hev
  obtain ⟨_, _, n0, n1⟩ := vc_iff.1 hvc
  have hsr : (hv cs.reverse).sum = (hv cs).sum := by rw [hv_rev, revZ_sum]
  have L1 := half_len ht
  rw [List.length_reverse] at L1
  have L2 := half_len h
  refine ext_z (by rw [List.length_reverse, L1, subZ_len]) (fun i hi => ?_)
  rw [List.length_reverse, L1] at hi
  rw [subZ_get _ _ hi, revZ_get _ (by omega), L1, half_yes ht, half_yes h, hsr]
  have ei := ev i hi
  by_cases c : n ≤ (hv cs).sum
  · rw [if_pos c]
    by_cases d : n = (hv cs).sum
    · have e1 : gainV n (hv cs) = hv cs := by rw [d]; exact gain_all (by rw [← d]; exact hf_low h c)
      have e2 : gainV (cs.sum - n) (hv cs.reverse) = hv cs.reverse := by
        have : cs.sum - n = (hv cs.reverse).sum := by omega
        rw [this]; exact gain_all (by rw [← this]; exact hf_low ht (by omega))
      rw [if_pos (by omega), e1, e2, hv_rev, revZ_get _ (by rw [hv_len]; omega), hv_len, show cs.length - 1 - (cs.length - 1 - i) = i by omega, hv_get cs hi]
      omega
    · have c2 : ¬ cs.sum - n ≤ (hv cs).sum := by omega
      rw [if_neg c2]
      have v1 := hf_high ht (by rw [hsr]; exact c2)
      rw [hsr] at v1
      have l1 := loss_len v1
      rw [hv_len, List.length_reverse] at l1
      rw [addZ_get _ _ (by omega), hv_rev, revZ_get _ (by rw [hv_len]; omega), hv_len, show cs.length - 1 - (cs.length - 1 - i) = i by omega, hv_get cs hi]
      rw [hv_rev] at v1
      rw [loss_yes v1, lossT_get _ _ (by rw [List.length_reverse, hv_len]; omega), List.reverse_reverse, List.length_reverse, hv_len, revZ_get _ (by rw [hv_len]; omega), hv_len, show cs.length - 1 - (cs.length - 1 - i) = i by omega, hv_get cs hi, revZ_sum, gain_yes (hf_low h c), show ((hv cs).sum - (cs.sum - n - (hv cs).sum)).toNat = n.toNat by congr 1; omega]
      omega
  · rw [if_neg c, if_pos (by omega)]
    have v1 := hf_high h c
    have l1 := loss_len v1
    rw [hv_len] at l1
    have v2 := hf_low ht (by rw [hsr]; omega)
    rw [addZ_get _ _ (by omega), hv_get cs hi, loss_yes v1, lossT_get _ _ (by rw [hv_len]; exact hi), hv_len, hv_get cs hi, gain_yes v2, hv_rev, show ((hv cs).sum - (n - (hv cs).sum)).toNat = (cs.sum - n).toNat by congr 1; omega]
    omega

/-- what nobody else claims -/
def sureC (n : Int) (cs : List Int) : List Int := cs.map fun c => max 0 (n - cs.sum + c)
theorem sureC_len (n : Int) (cs : List Int) : (sureC n cs).length = cs.length := by unfold sureC; simp
theorem sureC_get (n : Int) (cs : List Int) {i : Nat} (h : i < cs.length) : (sureC n cs).getD i 0 = max 0 (n - cs.sum + cs.getD i 0) := by
  unfold sureC
  rw [List.getD_eq_getElem?_getD, List.getD_eq_getElem?_getD, List.getElem?_map, List.getElem?_eq_getElem h]; rfl
def leastV (n : Int) (cs : List Int) : List Int := if vcB n cs = true then sureC n cs else []
theorem leastV_yes {n : Int} {cs : List Int} (h : vcB n cs = true) : leastV n cs = sureC n cs := if_pos h
theorem leastV_no {n : Int} {cs : List Int} (h : vcB n cs = false) : leastV n cs = [] := by unfold leastV; rw [h]; rfl
/-- P91: what nobody else claims is sure in each division -/
theorem sure_good {n : Int} {cs gs : List Int} (h : Good n cs gs) {i : Nat} (hi : i < cs.length) : (sureC n cs).getD i 0 ≤ gs.getD i 0 := by
  obtain ⟨hl, hs, hb⟩ := h
  rw [sureC_get n cs hi]
  have u := sum_leZ (gs.set i (cs.getD i 0)) cs (by rw [List.length_set, hl]) (fun k hk => by
    rw [List.length_set, hl] at hk
    rw [getD_setZ k _ (by omega)]
    by_cases f : k = i
    · rw [if_pos f, f]; exact Int.le_refl _
    · rw [if_neg f]; exact (hb k hk).2)
  have t := sum_setZ gs i (cs.getD i 0) (by omega)
  have := (hb i hi).1
  omega
theorem sure_sum {n : Int} {cs gs : List Int} (h : Good n cs gs) : (sureC n cs).sum ≤ n := by
  have := sum_leZ (sureC n cs) gs (by rw [sureC_len, h.1]) (fun i hi => sure_good h (by rwa [sureC_len] at hi))
  rwa [h.2.1] at this
/-- P85: two who contest -/
theorem half_two {n : Int} {cs : List Int} (h : hfB n cs = true) (h2 : cs.length = 2) {i : Nat} (hi : i < 2) :
    2 * ((halfV n cs).getD i 0 - (sureC n cs).getD i 0) ≤ n - (sureC n cs).sum + 1 ∧ n - (sureC n cs).sum - 1 ≤ 2 * ((halfV n cs).getD i 0 - (sureC n cs).getD i 0) := by
  obtain ⟨hvc, hev, hs, ha, hl⟩ := hf_is h
  have two : ∀ l : List Int, l.length = 2 → l.sum = l.getD 0 0 + l.getD 1 0 := fun l hl => by
    match l, hl with
    | [a, b], _ => show a + (b + 0) = a + b; omega
  have s1 := two cs h2
  have s2 := two (sureC n cs) (by rw [sureC_len, h2])
  have g0 := sureC_get n cs (i := 0) (by omega)
  have g1 := sureC_get n cs (i := 1) (by omega)
  have e0 := (ev_iff cs).1 hev 0 (by omega)
  have e1 := (ev_iff cs).1 hev 1 (by omega)
  have b0 := allB_get (vc_iff.1 hvc).1 (i := 0) (by omega)
  have b1 := allB_get (vc_iff.1 hvc).1 (i := 1) (by omega)
  have v0 := hv_get cs (i := 0) (by omega)
  have v1 := hv_get cs (i := 1) (by omega)
  have hl2 : (hv cs).length = 2 := by rw [hv_len, h2]
  have s3 := two (hv cs) hl2
  obtain ⟨_, _, n0, n1⟩ := vc_iff.1 hvc
  rw [half_yes h]
  by_cases c : n ≤ (hv cs).sum
  · rw [if_pos c]
    obtain ⟨f1, f2, f3, f4⟩ := gain_fair (hf_low h c)
    have s4 := two (gainV n (hv cs)) (by rw [f1, hl2])
    have p0 := f3 0 (by omega)
    have p1 := f3 1 (by omega)
    have q0 := f4 0 1 (by omega) (by omega)
    have q1 := f4 1 0 (by omega) (by omega)
    rcases (by omega : i = 0 ∨ i = 1) with rfl | rfl <;> omega
  · rw [if_neg c]
    obtain ⟨f2, f3, f4⟩ := loss_fair (hf_high h c)
    have l1 := loss_len (hf_high h c)
    have s4 := two (lossV (n - (hv cs).sum) (hv cs)) (by rw [l1, hl2])
    have p0 := f3 0 (by omega)
    have p1 := f3 1 (by omega)
    have q0 := f4 0 1 (by omega) (by omega)
    have q1 := f4 1 0 (by omega) (by omega)
    have a0 := addZ_get (lossV (n - (hv cs).sum) (hv cs)) (hv cs) (i := 0) (by omega)
    have a1 := addZ_get (lossV (n - (hv cs).sum) (hv cs)) (hv cs) (i := 1) (by omega)
    rcases (by omega : i = 0 ∨ i = 1) with rfl | rfl <;> omega

/-- the gaps of all pairs of numbers -/
def gapZ (zs : List Int) : Int := gapT (fun i => zs.getD i 0) zs.length
/-- what GapsOf takes -/
def gpB (zs : List Int) : Bool := allB zs 500 && decide (zs.length ≤ 12)
def gapV (zs : List Int) : Int := if gpB zs = true then gapZ zs else -1
theorem gp_iff {zs : List Int} : gpB zs = true ↔ allB zs 500 = true ∧ zs.length ≤ 12 := by unfold gpB; simp
theorem gapV_yes {zs : List Int} (h : gpB zs = true) : gapV zs = gapZ zs := if_pos h
theorem gapV_no {zs : List Int} (h : gpB zs = false) : gapV zs = -1 := by unfold gapV; rw [h]; rfl
theorem sumF_sum (zs : List Int) : ∀ k, k ≤ zs.length → sumF (fun i => zs.getD i 0) k = (zs.take k).sum := by
  intro k
  induction k with
  | zero => intro _; rfl
  | succ k ih => intro h; rw [sumF_succ, ih (by omega), take_sum zs k (by omega)]
theorem sumF_all (zs : List Int) : sumF (fun i => zs.getD i 0) zs.length = zs.sum := by
  rw [sumF_sum zs _ (Nat.le_refl _), List.take_of_length_le (Nat.le_refl _)]
/-- P79 -/
theorem gain_gaps {n : Int} {cs ys : List Int} (h : vcB n cs = true) (hy : Good n cs ys) : gapZ (gainV n cs) ≤ gapZ ys := by
  obtain ⟨f1, f2, f3, f4⟩ := gain_fair h
  unfold gapZ
  rw [f1, hy.1]
  have D : ∃ d : Nat, sumF (fun i => gapD (ys.getD i 0) ((gainV n cs).getD i 0)) cs.length ≤ (d : Int) := ⟨_, Int.self_le_toNat _⟩
  obtain ⟨d, hd⟩ := D
  refine gains_least (c := fun i => cs.getD i 0) (x := fun i => (gainV n cs).getD i 0) (m := cs.length) (fun i k hi hk hlt => f4 i k hi hk hlt) (fun i hi => (f3 i hi).2) d _ hd (fun i hi => (hy.2.2 i hi).2) ?_
  have a := sumF_all (gainV n cs)
  have b := sumF_all ys
  rw [f1] at a
  rw [hy.1] at b
  show sumF (fun i => ys.getD i 0) cs.length = sumF (fun i => (gainV n cs).getD i 0) cs.length
  rw [a, b, f2, hy.2.1]
theorem gapT_nonneg (f : Nat → Int) (m : Nat) : 0 ≤ gapT f m := by
  have : sumF (fun _ => 0) m ≤ gapT f m := sumF_le m (fun i _ => by
    have : sumF (fun _ => 0) i ≤ sumF (fun k => gapD (f i) (f k)) i := sumF_le i (fun k _ => gapD_nonneg _ _)
    rwa [sumF_zero] at this)
  rwa [sumF_zero] at this
theorem sumF_pos {f : Nat → Int} : ∀ {m : Nat} {i : Nat}, (∀ k, k < m → 0 ≤ f k) → i < m → f i ≤ sumF f m := by
  intro m
  induction m with
  | zero => intro i _ h; omega
  | succ m ih =>
    intro i h hi
    rw [sumF_succ]
    have hm := h m (by omega)
    have h0 : 0 ≤ sumF f m := by
      have := sumF_le m (f := fun _ => 0) (g := f) (fun k hk => h k (by omega))
      rwa [sumF_zero] at this
    by_cases c : i = m
    · subst c; omega
    · have := ih (fun k hk => h k (by omega)) (show i < m by omega); omega
/-- P93: no gaps just where all are the same -/
theorem gap_same (zs : List Int) : gapZ zs = 0 ↔ ∀ i, i < zs.length → zs.getD i 0 = zs.getD 0 0 := by
  unfold gapZ gapT
  constructor
  · intro h0 i hi
    have h : sumF (fun i => sumF (fun k => gapD (zs.getD i 0) (zs.getD k 0)) i) zs.length = 0 := h0
    by_cases c : i = 0
    · rw [c]
    · have a := sumF_pos (f := fun i => sumF (fun k => gapD (zs.getD i 0) (zs.getD k 0)) i) (m := zs.length) (i := i) (fun k _ => by
        have := sumF_le k (f := fun _ => 0) (g := fun j => gapD (zs.getD k 0) (zs.getD j 0)) (fun j _ => gapD_nonneg _ _)
        rwa [sumF_zero] at this) hi
      have b := sumF_pos (f := fun k => gapD (zs.getD i 0) (zs.getD k 0)) (m := i) (i := 0) (fun k _ => gapD_nonneg _ _) (by omega)
      have a' : sumF (fun k => gapD (zs.getD i 0) (zs.getD k 0)) i ≤ sumF (fun i => sumF (fun k => gapD (zs.getD i 0) (zs.getD k 0)) i) zs.length := a
      have b' : gapD (zs.getD i 0) (zs.getD 0 0) ≤ sumF (fun k => gapD (zs.getD i 0) (zs.getD k 0)) i := b
      have g := gapD_nonneg (zs.getD i 0) (zs.getD 0 0)
      have z : gapD (zs.getD i 0) (zs.getD 0 0) = 0 := by omega
      unfold gapD at z
      split at z <;> omega
  · intro h
    have : sumF (fun i => sumF (fun k => gapD (zs.getD i 0) (zs.getD k 0)) i) zs.length = sumF (fun _ => 0) zs.length := sumF_congr _ (fun i hi => by
      have e : sumF (fun k => gapD (zs.getD i 0) (zs.getD k 0)) i = sumF (fun _ => 0) i := sumF_congr _ (fun k hk => by rw [h i hi, h k (by omega)]; exact gapD_self _)
      rw [e, sumF_zero])
    rw [this, sumF_zero]
theorem sumF_rev (f : Nat → Int) : ∀ m, sumF (fun i => f (m - 1 - i)) m = sumF f m := by
  have key : ∀ m (f : Nat → Int), sumF f (m + 1) = f 0 + sumF (fun i => f (i + 1)) m := by
    intro m
    induction m with
    | zero => intro f; show 0 + f 0 = f 0 + 0; omega
    | succ m ih => intro f; rw [sumF_succ, ih, sumF_succ]; omega
  intro m
  induction m with
  | zero => rfl
  | succ m ih =>
    rw [key, sumF_succ, ← ih]
    show f (m + 1 - 1 - 0) + sumF (fun i => f (m + 1 - 1 - (i + 1))) m = _
    rw [show m + 1 - 1 - 0 = m by omega, sumF_congr (f := fun i => f (m + 1 - 1 - (i + 1))) (g := fun i => f (m - 1 - i)) m (fun i hi => by rw [show m + 1 - 1 - (i + 1) = m - 1 - i by omega])]
    omega
/-- P93: turned round -/
theorem gap_rev (zs : List Int) : gapZ zs.reverse = gapZ zs := by
  have e : ∀ f : Nat → Int, ∀ m, gapG (fun i => f (m - 1 - i)) m = gapG f m := fun f m => by
    unfold gapG
    have a := sumF_rev (fun i => sumF (fun k => gapD (f i) (f (m - 1 - k))) m) m
    have b : sumF (fun i => sumF (fun k => gapD (f i) (f (m - 1 - k))) m) m = sumF (fun i => sumF (fun k => gapD (f i) (f k)) m) m := sumF_congr m (fun i _ => sumF_rev (fun k => gapD (f i) (f k)) m)
    rw [← b, ← a]
  unfold gapZ
  rw [List.length_reverse]
  have h1 := gapG_two (fun i => zs.reverse.getD i 0) zs.length
  have h2 := gapG_two (fun i => zs.getD i 0) zs.length
  have h3 : gapG (fun i => zs.reverse.getD i 0) zs.length = gapG (fun i => zs.getD (zs.length - 1 - i) 0) zs.length := sumF_congr _ (fun i hi => sumF_congr _ (fun k hk => by
    show gapD (zs.reverse.getD i 0) (zs.reverse.getD k 0) = _
    rw [revZ_get _ hi, revZ_get _ hk]))
  have h4 := e (fun i => zs.getD i 0) zs.length
  have h4' : gapG (fun i => zs.getD (zs.length - 1 - i) 0) zs.length = gapG (fun i => zs.getD i 0) zs.length := h4
  omega

/-- GoodGifts -/
def goodB (n : Int) (cs gs : List Int) : Bool := decide (gs.length = cs.length) && decide (gs.sum = n) && (List.range cs.length).all fun i => decide (0 ≤ gs.getD i 0) && decide (gs.getD i 0 ≤ cs.getD i 0)
theorem goodB_iff {n : Int} {cs gs : List Int} : goodB n cs gs = true ↔ Good n cs gs := by
  unfold goodB Good
  simp only [Bool.and_eq_true, decide_eq_true_eq, List.all_eq_true, List.mem_range]
  constructor
  · rintro ⟨⟨a, b⟩, c⟩; exact ⟨a, b, c⟩
  · rintro ⟨a, b, c⟩; exact ⟨⟨a, b⟩, c⟩
def ggB (n : Int) (cs gs : List Int) : Bool := vcB n cs && goodB n cs gs
theorem gg_yes {n : Int} {cs gs : List Int} (h : vcB n cs = true) (h2 : Good n cs gs) : ggB n cs gs = true := by unfold ggB; rw [h, goodB_iff.2 h2]; rfl
theorem gg_is {n : Int} {cs gs : List Int} (h : ggB n cs gs = true) : vcB n cs = true ∧ Good n cs gs := by
  unfold ggB at h; rw [Bool.and_eq_true, goodB_iff] at h; exact h
theorem gg_no1 {n : Int} {cs gs : List Int} (h : vcB n cs = false) : ggB n cs gs = false := by unfold ggB; rw [h]; rfl
theorem gg_no {n : Int} {cs gs : List Int} (h : ¬ Good n cs gs) : ggB n cs gs = false := by
  rw [Bool.eq_false_iff]; exact fun c => h (gg_is c).2
/-- P94 -/
theorem gg_back {n : Int} {cs gs : List Int} (h : ggB n cs gs = true) : ggB (cs.sum - n) cs (subZ cs gs) = true := by
  obtain ⟨a, b, c, d⟩ := gg_is h
  refine gg_yes (vc_turn a) ⟨subZ_len _ _, by rw [subZ_sum b, c], fun i hi => ?_⟩
  rw [subZ_get _ _ hi]
  have := d i hi; omega
end Go.Proofs.Ytigapnbpgbfbhac
