/- Plots (pure): the greatest yields are the greatest ones, and the plots that have them can't be bettered. No condition but those stated. -/
import Derived.Test.YtigapnbpgbfbhacPloP
namespace Go.Proofs.Ytigapnbpgbfbhac
set_option linter.unusedVariables false
set_option linter.unusedSimpArgs false
def nS (ps : List Pl) (S : Nat → Bool) : Nat → Int
  | 0 => 0
  | k + 1 => nS ps S k + if S k = true then (ps.getD k pl0).1 else 0
def vS (ps : List Pl) (S : Nat → Bool) : Nat → Int
  | 0 => 0
  | k + 1 => vS ps S k + if S k = true then (ps.getD k pl0).2 else 0
theorem nS_succ (ps : List Pl) (S : Nat → Bool) (k : Nat) : nS ps S (k + 1) = nS ps S k + if S k = true then (ps.getD k pl0).1 else 0 := rfl
theorem vS_succ (ps : List Pl) (S : Nat → Bool) (k : Nat) : vS ps S (k + 1) = vS ps S k + if S k = true then (ps.getD k pl0).2 else 0 := rfl
theorem nS_pos {ps : List Pl} (h : vpB ps = true) (S : Nat → Bool) : ∀ k, 0 ≤ nS ps S k := by
  intro k
  induction k with
  | zero => exact Int.le_refl _
  | succ k ih => rw [nS_succ]; have := vp_pos h k; split <;> omega
/-- no choice yields more -/
theorem yT_ge {ps : List Pl} (h : vpB ps = true) (S : Nat → Bool) : ∀ k (w : Nat), nS ps S k ≤ (w : Int) → vS ps S k ≤ yT ps k w := by
  intro k
  induction k with
  | zero => intro w _; exact Int.le_refl _
  | succ k ih =>
    intro w hw
    rw [nS_succ] at hw
    rw [vS_succ]
    have b := vp_pos h k
    have p := nS_pos h S k
    cases e : S k with
    | false =>
      rw [e, if_neg (by simp)] at hw
      rw [if_neg (by simp)]
      have := ih w (by omega)
      have := yT_more (ps := ps) (k := k) (w := w)
      omega
    | true =>
      rw [e, if_pos rfl] at hw
      rw [if_pos rfl]
      have c : (ps.getD k pl0).1 ≤ (w : Int) := by omega
      have := ih (w - (ps.getD k pl0).1.toNat) (by omega)
      rw [yT_yes c]
      omega
theorem nS_put {ps : List Pl} {S : Nat → Bool} {m : Nat} (hS : S m = false) : ∀ n, nS ps (fun i => S i || decide (i = m)) n = nS ps S n + if m < n then (ps.getD m pl0).1 else 0 := by
  intro n
  induction n with
  | zero => rfl
  | succ n ih =>
    rw [nS_succ, nS_succ, ih]
    by_cases e : n = m
    · subst e
      rw [hS, if_neg (Nat.lt_irrefl _), if_pos (by simp), if_neg (by simp), if_pos (by omega)]; try simp
    · have : (S n || decide (n = m)) = S n := by rw [decide_eq_false e]; simp
      rw [this]
      by_cases c : m < n
      · rw [if_pos c, if_pos (Nat.lt_succ_of_lt c)]; omega
      · rw [if_neg c, if_neg (show ¬ m < n + 1 by omega)]; omega
theorem vS_put {ps : List Pl} {S : Nat → Bool} {m : Nat} (hS : S m = false) : ∀ n, vS ps (fun i => S i || decide (i = m)) n = vS ps S n + if m < n then (ps.getD m pl0).2 else 0 := by
  intro n
  induction n with
  | zero => rfl
  | succ n ih =>
    rw [vS_succ, vS_succ, ih]
    by_cases e : n = m
    · subst e
      rw [hS, if_neg (Nat.lt_irrefl _), if_pos (by simp), if_neg (by simp), if_pos (by omega)]; try simp
    · have : (S n || decide (n = m)) = S n := by rw [decide_eq_false e]; simp
      rw [this]
      by_cases c : m < n
      · rw [if_pos c, if_pos (Nat.lt_succ_of_lt c)]; omega
      · rw [if_neg c, if_neg (show ¬ m < n + 1 by omega)]; omega
theorem S_ext {ps : List Pl} {S T : Nat → Bool} : ∀ n, (∀ i, i < n → S i = T i) → nS ps S n = nS ps T n ∧ vS ps S n = vS ps T n := by
  intro n
  induction n with
  | zero => intro _; exact ⟨rfl, rfl⟩
  | succ n ih =>
    intro h
    obtain ⟨a, b⟩ := ih (fun i hi => h i (by omega))
    rw [nS_succ, nS_succ, vS_succ, vS_succ, a, b, h n (by omega)]
    exact ⟨rfl, rfl⟩
/-- a choice told by a list -/
def inS (ks : List Int) (i : Nat) : Bool := decide ((i : Int) ∈ ks)
theorem inS_sum {ps : List Pl} : ∀ ks : List Int, ks.Nodup → (∀ z ∈ ks, 0 ≤ z ∧ z < (ps.length : Int)) → nS ps (inS ks) ps.length = needS ps ks ∧ vS ps (inS ks) ps.length = yldS ps ks := by
  intro ks
  induction ks with
  | nil =>
    intro _ _
    have : ∀ n, nS ps (inS []) n = 0 ∧ vS ps (inS []) n = 0 := by
      intro n
      induction n with
      | zero => exact ⟨rfl, rfl⟩
      | succ n ih =>
        have e : inS [] n = false := by unfold inS; simp
        rw [nS_succ, vS_succ, ih.1, ih.2, e]; exact ⟨rfl, rfl⟩
    exact this _
  | cons z t ih =>
    intro hd hz
    obtain ⟨hn, hd'⟩ := List.nodup_cons.1 hd
    obtain ⟨a, b⟩ := ih hd' (fun x hx => hz x (List.mem_cons_of_mem _ hx))
    obtain ⟨z0, z1⟩ := hz z (List.mem_cons_self ..)
    have hS : inS t z.toNat = false := by
      unfold inS
      rw [show ((z.toNat : Nat) : Int) = z from by omega]
      exact decide_eq_false hn
    have e := S_ext (ps := ps) (S := inS (z :: t)) (T := fun i => inS t i || decide (i = z.toNat)) ps.length (fun i hi => by
      unfold inS
      by_cases c : i = z.toNat
      · rw [decide_eq_true c, decide_eq_true (by rw [show (i : Int) = z from by omega]; exact List.mem_cons_self ..)]; simp
      · rw [decide_eq_false c]
        by_cases d : (i : Int) ∈ t
        · rw [decide_eq_true d, decide_eq_true (List.mem_cons_of_mem _ d)]; rfl
        · rw [decide_eq_false d, decide_eq_false (fun q => by
            rcases List.mem_cons.1 q with q | q
            · exact c (by omega)
            · exact d q)]; rfl)
    rw [e.1, e.2, nS_put hS, vS_put hS, a, b, if_pos (by omega), if_pos (by omega)]
    show _ + _ = _ + needS ps t ∧ _ + _ = _ + yldS ps t
    omega
/-- the plots that are chosen -/
theorem sel_facts {ps : List Pl} (h : vpB ps = true) : ∀ k (w : Nat), k ≤ ps.length → needS ps (selTo ps k w) ≤ (w : Int) ∧ yldS ps (selTo ps k w) = yT ps k w ∧ (∀ z ∈ selTo ps k w, 0 ≤ z ∧ z < (k : Int)) ∧ (selTo ps k w).Nodup := by
  intro k
  induction k with
  | zero => intro w _; exact ⟨by show (0 : Int) ≤ _; omega, rfl, (fun z hz => by cases hz), (by unfold selTo; simp)⟩
  | succ k ih =>
    intro w hk
    by_cases c : yT ps k w < yT ps (k + 1) w
    · obtain ⟨d, e⟩ := sel_need c
      have p := vp_pos h k
      obtain ⟨a1, a2, a3, a4⟩ := ih (w - (ps.getD k pl0).1.toNat) (by omega)
      rw [sel_yes c]
      refine ⟨?_, ?_, ?_, ?_⟩
      · rw [needS_snoc, show ((k : Int)).toNat = k from by omega]; omega
      · rw [yldS_snoc, show ((k : Int)).toNat = k from by omega, a2, e]
      · intro z hz
        rcases List.mem_append.1 hz with hz | hz
        · have := a3 z hz; omega
        · rw [List.mem_singleton] at hz; omega
      · rw [List.nodup_append]
        refine ⟨a4, by simp, ?_⟩
        intro x hx y hy e
        rw [List.mem_singleton] at hy
        have := a3 x hx
        omega
    · rw [sel_no c]
      obtain ⟨a1, a2, a3, a4⟩ := ih w (by omega)
      refine ⟨a1, ?_, fun z hz => by have := a3 z hz; omega, a4⟩
      have := yT_more (ps := ps) (k := k) (w := w)
      omega
theorem sel_asc (ps : List Pl) : ∀ k w, ∀ i j, i < j → j < (selTo ps k w).length → (selTo ps k w).getD i 0 < (selTo ps k w).getD j 0 := by
  have hm : ∀ k w, ∀ z ∈ selTo ps k w, z < (k : Int) := by
    intro k
    induction k with
    | zero => intro w z hz; cases hz
    | succ k ih =>
      intro w z hz
      by_cases c : yT ps k w < yT ps (k + 1) w
      · rw [sel_yes c] at hz
        rcases List.mem_append.1 hz with hz | hz
        · have := ih _ z hz; omega
        · rw [List.mem_singleton] at hz; omega
      · rw [sel_no c] at hz; have := ih _ z hz; omega
  intro k
  induction k with
  | zero => intro w i j _ hj; exact absurd hj (Nat.not_lt_zero _)
  | succ k ih =>
    intro w i j hij hj
    by_cases c : yT ps k w < yT ps (k + 1) w
    · rw [sel_yes c] at hj ⊢
      rw [List.length_append] at hj
      have hj : j < (selTo ps k (w - (ps.getD k pl0).1.toNat)).length + 1 := hj
      by_cases e : j < (selTo ps k (w - (ps.getD k pl0).1.toNat)).length
      · have t := ih (w - (ps.getD k pl0).1.toNat) i j hij e
        generalize selTo ps k (w - (ps.getD k pl0).1.toNat) = L at e t
        rw [List.getD_eq_getElem?_getD, List.getD_eq_getElem?_getD] at t
        rw [List.getD_eq_getElem?_getD, List.getD_eq_getElem?_getD, List.getElem?_append_left (by omega), List.getElem?_append_left e]
        exact t
      · have e2 : j = (selTo ps k (w - (ps.getD k pl0).1.toNat)).length := by omega
        have hi : i < (selTo ps k (w - (ps.getD k pl0).1.toNat)).length := by omega
        have hmem := hm k (w - (ps.getD k pl0).1.toNat) _ (List.getElem_mem hi)
        generalize selTo ps k (w - (ps.getD k pl0).1.toNat) = L at e2 hi hmem
        rw [List.getD_eq_getElem?_getD, List.getD_eq_getElem?_getD, List.getElem?_append_left hi, List.getElem?_append_right (by omega), e2, Nat.sub_self, List.getElem?_eq_getElem hi]
        exact hmem
    · rw [sel_no c] at hj ⊢
      exact ih w i j hij hj
/-- valid plots that are chosen are valid numbers of plots -/
theorem nodup_ok {ps : List Pl} {ks : List Int} (hd : ks.Nodup) (hz : ∀ z ∈ ks, 0 ≤ z ∧ z < (ps.length : Int)) : ∀ k, k < ks.length → okP ps ks k = true := by
  intro k hk
  have e : ks.getD k 0 = ks[k] := by rw [List.getD_eq_getElem?_getD, List.getElem?_eq_getElem hk]; rfl
  refine okP_iff.2 ⟨?_, ?_⟩
  · rw [e]; exact hz _ (List.getElem_mem hk)
  · intro c
    obtain ⟨i, hi, hc⟩ := List.getElem_of_mem c
    rw [List.length_take] at hi
    rw [List.getElem_take, e] at hc
    have := (List.getElem_inj hd).1 hc
    omega
theorem sel_pn {ps : List Pl} (h : vpB ps = true) (w : Nat) : pnB ps (selTo ps ps.length w) = true := by
  obtain ⟨_, _, c, d⟩ := sel_facts h ps.length w (Nat.le_refl _)
  exact pn_yes h (nodup_ok d c)
/-- none can be added -/
theorem sel_add {ps : List Pl} (h : vpB ps = true) {w i : Nat} (hi : i < ps.length) (hn : (i : Int) ∉ selTo ps ps.length w) : (w : Int) < needS ps (selTo ps ps.length w) + (ps.getD i pl0).1 := by
  obtain ⟨a, b, c, d⟩ := sel_facts h ps.length w (Nat.le_refl _)
  obtain ⟨s1, s2⟩ := inS_sum _ d c
  have hS : inS (selTo ps ps.length w) i = false := decide_eq_false hn
  have e1 := nS_put (ps := ps) hS ps.length
  have e2 := vS_put (ps := ps) hS ps.length
  rw [if_pos hi] at e1 e2
  have p := vp_at h hi
  apply Int.not_le.1
  intro q
  have := yT_ge h (fun k => inS (selTo ps ps.length w) k || decide (k = i)) ps.length w (by rw [e1, s1]; exact q)
  rw [e2, s2, b] at this
  omega
theorem nS_cut {ps : List Pl} {S : Nat → Bool} {m : Nat} (hS : S m = true) : ∀ n, nS ps (fun i => S i && !decide (i = m)) n = nS ps S n - if m < n then (ps.getD m pl0).1 else 0 := by
  intro n
  induction n with
  | zero => rfl
  | succ n ih =>
    rw [nS_succ, nS_succ, ih]
    by_cases e : n = m
    · subst e
      rw [hS, if_neg (Nat.lt_irrefl _), if_neg (by simp), if_pos rfl, if_pos (by omega)]; omega
    · have : (S n && !decide (n = m)) = S n := by rw [decide_eq_false e]; simp
      rw [this]
      by_cases c : m < n
      · rw [if_pos c, if_pos (Nat.lt_succ_of_lt c)]; omega
      · rw [if_neg c, if_neg (show ¬ m < n + 1 by omega)]; omega
theorem vS_cut {ps : List Pl} {S : Nat → Bool} {m : Nat} (hS : S m = true) : ∀ n, vS ps (fun i => S i && !decide (i = m)) n = vS ps S n - if m < n then (ps.getD m pl0).2 else 0 := by
  intro n
  induction n with
  | zero => rfl
  | succ n ih =>
    rw [vS_succ, vS_succ, ih]
    by_cases e : n = m
    · subst e
      rw [hS, if_neg (Nat.lt_irrefl _), if_neg (by simp), if_pos rfl, if_pos (by omega)]; omega
    · have : (S n && !decide (n = m)) = S n := by rw [decide_eq_false e]; simp
      rw [this]
      by_cases c : m < n
      · rw [if_pos c, if_pos (Nat.lt_succ_of_lt c)]; omega
      · rw [if_neg c, if_neg (show ¬ m < n + 1 by omega)]; omega
/-- none can be put in the place of another one -/
theorem sel_swap {ps : List Pl} (h : vpB ps = true) {w i : Nat} (hi : i < ps.length) (hn : (i : Int) ∉ selTo ps ps.length w) {z : Int} (hz : z ∈ selTo ps ps.length w) :
    needS ps (selTo ps ps.length w) + (ps.getD i pl0).1 - (ps.getD z.toNat pl0).1 ≤ (w : Int) → (ps.getD i pl0).2 ≤ (ps.getD z.toNat pl0).2 := by
  intro q
  obtain ⟨a, b, c, d⟩ := sel_facts h ps.length w (Nat.le_refl _)
  obtain ⟨s1, s2⟩ := inS_sum _ d c
  have cz := c z hz
  have hi0 : inS (selTo ps ps.length w) i = false := decide_eq_false hn
  have hz0 : inS (selTo ps ps.length w) z.toNat = true := by
    unfold inS; rw [show ((z.toNat : Nat) : Int) = z from by omega]; exact decide_eq_true hz
  have c1 := nS_cut (ps := ps) hz0 ps.length
  have c2 := vS_cut (ps := ps) hz0 ps.length
  rw [if_pos (by omega)] at c1 c2
  have hS : (fun k => inS (selTo ps ps.length w) k && !decide (k = z.toNat)) i = false := by
    show (inS (selTo ps ps.length w) i && _) = false; rw [hi0]; rfl
  have e1 := nS_put (ps := ps) (S := fun k => inS (selTo ps ps.length w) k && !decide (k = z.toNat)) hS ps.length
  have e2 := vS_put (ps := ps) (S := fun k => inS (selTo ps ps.length w) k && !decide (k = z.toNat)) hS ps.length
  rw [if_pos hi] at e1 e2
  have := yT_ge h (fun k => (inS (selTo ps ps.length w) k && !decide (k = z.toNat)) || decide (k = i)) ps.length w (by rw [e1, c1, s1]; omega)
  rw [e2, c2, s2, b] at this
  omega
/-- more water yields more -/
theorem yT_mono (ps : List Pl) : ∀ k w, yT ps k w ≤ yT ps k (w + 1) := by
  intro k
  induction k with
  | zero => intro w; exact Int.le_refl _
  | succ k ih =>
    intro w
    by_cases c : (ps.getD k pl0).1 ≤ (w : Int)
    · rw [yT_yes c, yT_yes (by omega)]
      have a := ih w
      have b := ih (w - (ps.getD k pl0).1.toNat)
      rw [show w - (ps.getD k pl0).1.toNat + 1 = w + 1 - (ps.getD k pl0).1.toNat from by omega] at b
      omega
    · rw [yT_no c]
      have a := ih w
      have := yT_more (ps := ps) (k := k) (w := w + 1)
      omega
def allY (ps : List Pl) : Nat → Int
  | 0 => 0
  | k + 1 => allY ps k + (ps.getD k pl0).2
theorem allY_succ (ps : List Pl) (k : Nat) : allY ps (k + 1) = allY ps k + (ps.getD k pl0).2 := rfl
theorem yT_all {ps : List Pl} (h : vpB ps = true) : ∀ k w, yT ps k w ≤ allY ps k := by
  intro k
  induction k with
  | zero => intro w; exact Int.le_refl _
  | succ k ih =>
    intro w
    have p := vp_pos h k
    rw [allY_succ]
    by_cases c : (ps.getD k pl0).1 ≤ (w : Int)
    · rw [yT_yes c]
      have a := ih w
      have b := ih (w - (ps.getD k pl0).1.toNat)
      omega
    · rw [yT_no c]; have a := ih w; omega
theorem yT_step (ps : List Pl) {k w : Nat} : ∀ d, yT ps k w ≤ yT ps (k + d) w := by
  intro d
  induction d with
  | zero => exact Int.le_refl _
  | succ d ih =>
    have := yT_more (ps := ps) (k := k + d) (w := w)
    show _ ≤ yT ps (k + d + 1) w
    omega
theorem yT_one {ps : List Pl} (h : vpB ps = true) {i w : Nat} (hi : i < ps.length) (hn : (ps.getD i pl0).1 ≤ (w : Int)) : (ps.getD i pl0).2 ≤ yT ps ps.length w := by
  have a := yT_step ps (k := i + 1) (w := w) (ps.length - (i + 1))
  rw [show i + 1 + (ps.length - (i + 1)) = ps.length from by omega, yT_yes hn] at a
  have := (yT_bd h i (w - (ps.getD i pl0).1.toNat) (by omega)).1
  omega
theorem rmv_vp {ps : List Pl} (h : vpB ps = true) {i : Nat} (hi : i < ps.length) : vpB (rmv ps i) = true := by
  have hl := rmv_len hi
  refine vp_yes (by have := (vp_is h).1; omega) (fun k hk => ?_)
  rw [rmv_get hi]
  split
  · exact (vp_is h).2 k (by omega)
  · exact (vp_is h).2 (k + 1) (by omega)
theorem rmv_yT {ps : List Pl} {i : Nat} (hi : i < ps.length) : ∀ k w, (k ≤ i → yT (rmv ps i) k w = yT ps k w) ∧ (i ≤ k → yT (rmv ps i) k w ≤ yT ps (k + 1) w) := by
  intro k
  induction k with
  | zero =>
    intro w
    refine ⟨fun _ => rfl, fun h => ?_⟩
    have := yT_more (ps := ps) (k := 0) (w := w)
    exact this
  | succ k ih =>
    intro w
    have hA : k + 1 ≤ i → yT (rmv ps i) (k + 1) w = yT ps (k + 1) w := fun h => by
      have e : (rmv ps i).getD k pl0 = ps.getD k pl0 := by rw [rmv_get hi, if_pos (by omega)]
      unfold yT
      rw [e, (ih w).1 (by omega), (ih _).1 (by omega)]
    refine ⟨hA, fun h => ?_⟩
    by_cases c : i = k + 1
    · rw [hA (by omega)]; exact yT_more
    · have e : (rmv ps i).getD k pl0 = ps.getD (k + 1) pl0 := by rw [rmv_get hi, if_neg (by omega)]
      have a := (ih w).2 (by omega)
      by_cases d : (ps.getD (k + 1) pl0).1 ≤ (w : Int)
      · rw [yT_yes (k := k) (by rw [e]; exact d), e, yT_yes d]
        have b := (ih (w - (ps.getD (k + 1) pl0).1.toNat)).2 (by omega)
        omega
      · rw [yT_no (k := k) (by rw [e]; exact d), yT_no d]; exact a
theorem rmv_yield {ps : List Pl} {i : Nat} (hi : i < ps.length) (w : Nat) : yT (rmv ps i) (rmv ps i).length w ≤ yT ps ps.length w := by
  have := (rmv_yT hi (ps.length - 1) w).2 (by omega)
  rw [rmv_len hi]
  rw [show ps.length - 1 + 1 = ps.length from by omega] at this
  exact this
/-- halves of numbers of plots -/
theorem pn_half {ps : List Pl} {ks : List Int} (h : pnB ps ks = true) (k : Nat) : pnB ps (ks.take k) = true ∧ pnB ps (ks.drop k) = true ∧ needS ps (ks.take k) + needS ps (ks.drop k) = needS ps ks ∧ yldS ps (ks.take k) + yldS ps (ks.drop k) = yldS ps ks := by
  obtain ⟨hv, ho⟩ := pn_is h
  obtain ⟨hd, hz⟩ := pn_nodup (ps := ps) ks.length (Nat.le_refl _) ho
  rw [List.take_length] at hd hz
  refine ⟨pn_yes hv (nodup_ok ((List.take_sublist k ks).nodup hd) (fun z hm => hz z (List.mem_of_mem_take hm))), pn_yes hv (nodup_ok ((List.drop_sublist k ks).nodup hd) (fun z hm => hz z (List.mem_of_mem_drop hm))), ?_, ?_⟩
  · rw [← needS_app, List.take_append_drop]
  · rw [← yldS_app, List.take_append_drop]
theorem pn_best {ps : List Pl} {ks : List Int} (h : pnB ps ks = true) {w : Nat} (hw : needS ps ks ≤ (w : Int)) : yldS ps ks ≤ yT ps ps.length w := by
  obtain ⟨hv, ho⟩ := pn_is h
  obtain ⟨hd, hz⟩ := pn_nodup (ps := ps) ks.length (Nat.le_refl _) ho
  rw [List.take_length] at hd hz
  obtain ⟨a, b⟩ := inS_sum _ hd hz
  rw [← b]
  exact yT_ge hv _ _ w (by rw [a]; exact hw)
end Go.Proofs.Ytigapnbpgbfbhac
