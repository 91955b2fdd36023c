/- Plots (pure): which ones are valid, the greatest yields, and the plots that have them. No condition but those stated. -/
import Derived.Test.YtigapnbpgbfbhacPl
import Derived.Test.YtigapnbpgbfbhacMkZ
namespace Go.Proofs.Ytigapnbpgbfbhac
set_option linter.unusedVariables false
set_option linter.unusedSimpArgs false
def plotB (p : Pl) : Bool := (decide (0 ≤ p.1) && decide (p.1 ≤ 500)) && (decide (1 ≤ p.2) && decide (p.2 ≤ 1000))
theorem plotB_iff (p : Pl) : plotB p = true ↔ (0 ≤ p.1 ∧ p.1 ≤ 500) ∧ (1 ≤ p.2 ∧ p.2 ≤ 1000) := by
  unfold plotB; simp only [Bool.and_eq_true, decide_eq_true_eq]
theorem plotB_no {p : Pl} (h : ¬ ((0 ≤ p.1 ∧ p.1 ≤ 500) ∧ (1 ≤ p.2 ∧ p.2 ≤ 1000))) : plotB p = false := by
  cases e : plotB p with
  | false => rfl
  | true => exact absurd ((plotB_iff p).1 e) h
def vpB (ps : List Pl) : Bool := decide (ps.length ≤ 10) && (List.range ps.length).all fun k => plotB (ps.getD k pl0)
theorem vp_is {ps : List Pl} (h : vpB ps = true) : ps.length ≤ 10 ∧ ∀ k, k < ps.length → plotB (ps.getD k pl0) = true := by
  unfold vpB at h
  simp only [Bool.and_eq_true, decide_eq_true_eq, List.all_eq_true, List.mem_range] at h
  exact h
theorem vp_yes {ps : List Pl} (h1 : ps.length ≤ 10) (h2 : ∀ k, k < ps.length → plotB (ps.getD k pl0) = true) : vpB ps = true := by
  unfold vpB
  simp only [Bool.and_eq_true, decide_eq_true_eq, List.all_eq_true, List.mem_range]
  exact ⟨h1, h2⟩
theorem vp_no1 {ps : List Pl} (h : 10 < ps.length) : vpB ps = false := by
  cases e : vpB ps with
  | false => rfl
  | true => have := (vp_is e).1; omega
theorem vp_no2 {ps : List Pl} {k : Nat} (hk : k < ps.length) (h : plotB (ps.getD k pl0) = false) : vpB ps = false := by
  cases e : vpB ps with
  | false => rfl
  | true => have := (vp_is e).2 k hk; rw [h] at this; cases this
theorem vp_end {ps : List Pl} (h : ∀ k, k < ps.length → plotB (ps.getD k pl0) = true) : vpB ps = decide ((ps.length : Int) ≤ 10) := by
  by_cases e : ps.length ≤ 10
  · rw [vp_yes e h, decide_eq_true (by omega)]
  · rw [vp_no1 (by omega), decide_eq_false (by omega)]
theorem vp_at {ps : List Pl} (h : vpB ps = true) {k : Nat} (hk : k < ps.length) : (0 ≤ (ps.getD k pl0).1 ∧ (ps.getD k pl0).1 ≤ 500) ∧ (1 ≤ (ps.getD k pl0).2 ∧ (ps.getD k pl0).2 ≤ 1000) := (plotB_iff _).1 ((vp_is h).2 k hk)
theorem vp_pos {ps : List Pl} (h : vpB ps = true) (k : Nat) : 0 ≤ (ps.getD k pl0).1 ∧ 0 ≤ (ps.getD k pl0).2 := by
  by_cases hk : k < ps.length
  · have := vp_at h hk; omega
  · rw [List.getD_eq_getElem?_getD, List.getElem?_eq_none (by omega)]; exact ⟨Int.le_refl _, Int.le_refl _⟩
/-- the greatest yields of the first plots -/
def yT (ps : List Pl) : Nat → Nat → Int
  | 0, _ => 0
  | k + 1, w => if (ps.getD k pl0).1 ≤ (w : Int) then max (yT ps k w) (yT ps k (w - (ps.getD k pl0).1.toNat) + (ps.getD k pl0).2) else yT ps k w
theorem yT_zero (ps : List Pl) (w : Nat) : yT ps 0 w = 0 := rfl
theorem yT_yes {ps : List Pl} {k w : Nat} (h : (ps.getD k pl0).1 ≤ (w : Int)) : yT ps (k + 1) w = max (yT ps k w) (yT ps k (w - (ps.getD k pl0).1.toNat) + (ps.getD k pl0).2) := if_pos h
theorem yT_no {ps : List Pl} {k w : Nat} (h : ¬ (ps.getD k pl0).1 ≤ (w : Int)) : yT ps (k + 1) w = yT ps k w := if_neg h
theorem yT_more {ps : List Pl} {k w : Nat} : yT ps k w ≤ yT ps (k + 1) w := by
  by_cases h : (ps.getD k pl0).1 ≤ (w : Int)
  · rw [yT_yes h]; omega
  · rw [yT_no h]; omega
theorem yT_bd {ps : List Pl} (h : vpB ps = true) : ∀ k w, k ≤ ps.length → 0 ≤ yT ps k w ∧ yT ps k w ≤ 1000 * (k : Int) := by
  intro k
  induction k with
  | zero => intro w _; rw [yT_zero]; omega
  | succ k ih =>
    intro w hk
    have b := vp_at h (k := k) (by omega)
    by_cases c : (ps.getD k pl0).1 ≤ (w : Int)
    · rw [yT_yes c]
      have a1 := ih w (by omega)
      have a2 := ih (w - (ps.getD k pl0).1.toNat) (by omega)
      omega
    · rw [yT_no c]
      have := ih w (by omega)
      omega
/-- only the first plots matter -/
theorem yT_take (ps : List Pl) (n : Nat) : ∀ k w, k ≤ n → yT (ps.take n) k w = yT ps k w := by
  intro k
  induction k with
  | zero => intro w _; rfl
  | succ k ih =>
    intro w hk
    have e : (ps.take n).getD k pl0 = ps.getD k pl0 := by
      rw [List.getD_eq_getElem?_getD, List.getD_eq_getElem?_getD, List.getElem?_take_of_lt (by omega)]
    unfold yT
    rw [e, ih w (by omega), ih _ (by omega)]
def byV (ps : List Pl) (w : Int) : Int := if (vpB ps && (decide (0 ≤ w) && decide (w ≤ 500))) = true then yT ps ps.length w.toNat else -1
def wpB (ps : List Pl) (w : Int) : Bool := vpB ps && (decide (0 ≤ w) && decide (w ≤ 500))
theorem wp_is {ps : List Pl} {w : Int} (h : wpB ps w = true) : vpB ps = true ∧ 0 ≤ w ∧ w ≤ 500 := by
  unfold wpB at h; simp only [Bool.and_eq_true, decide_eq_true_eq] at h; exact h
theorem wp_yes {ps : List Pl} {w : Int} (h : vpB ps = true) (h0 : 0 ≤ w) (h1 : w ≤ 500) : wpB ps w = true := by
  unfold wpB; rw [h, decide_eq_true h0, decide_eq_true h1]; rfl
theorem byV_no {ps : List Pl} {w : Int} (h : wpB ps w = false) : byV ps w = -1 := by unfold byV; show (if wpB ps w = true then _ else _) = _; rw [h]; rfl
theorem byV_yes {ps : List Pl} {w : Nat} (h : wpB ps (w : Int) = true) : byV ps (w : Int) = yT ps ps.length w := by
  unfold byV; show (if wpB ps (w : Int) = true then _ else _) = _; rw [h, if_pos rfl, show ((w : Int)).toNat = w from by omega]
/-- one row of yields while it is made anew: from u on done -/
def rowT (ps : List Pl) (W k : Nat) (u : Int) : List Int := mkZ (W + 1) fun x => if u < (x : Int) then yT ps (k + 1) x else yT ps k x
theorem rowT_len (ps : List Pl) (W k : Nat) (u : Int) : (rowT ps W k u).length = W + 1 := by unfold rowT; rw [mkZ_len]
def rowY (ps : List Pl) (W k : Nat) : List Int := mkZ (W + 1) fun x => yT ps k x
theorem rowY_len (ps : List Pl) (W k : Nat) : (rowY ps W k).length = W + 1 := by unfold rowY; rw [mkZ_len]
theorem rowY_get {ps : List Pl} {W k x : Nat} (h : x ≤ W) : (rowY ps W k).getD x 0 = yT ps k x := by unfold rowY; rw [mkZ_get _ (by omega)]
theorem rowT_start (ps : List Pl) (W k : Nat) : rowT ps W k (W : Int) = rowY ps W k := by
  unfold rowT rowY; exact mkZ_ext fun x hx => if_neg (by omega)
theorem rowT_end {ps : List Pl} {W k : Nat} {u : Int} (h : u < (ps.getD k pl0).1) : rowT ps W k u = rowY ps W (k + 1) := by
  unfold rowT rowY
  refine mkZ_ext fun x hx => ?_
  by_cases c : u < (x : Int)
  · rw [if_pos c]
  · rw [if_neg c, yT_no (by omega)]
theorem rowT_old {ps : List Pl} {W k x : Nat} {u : Int} (hx : x ≤ W) (h : (x : Int) ≤ u) : (rowT ps W k u).getD x 0 = yT ps k x := by
  unfold rowT; rw [mkZ_get _ (by omega), if_neg (by omega)]
theorem rowT_set {ps : List Pl} {W k u : Nat} (hu : u ≤ W) : (rowT ps W k (u : Int)).set u (yT ps (k + 1) u) = rowT ps W k ((u : Int) - 1) := by
  refine ext_z (by rw [List.length_set, rowT_len, rowT_len]) (fun i hi => ?_)
  rw [List.length_set, rowT_len] at hi
  rw [getD_setZ i _ (by rw [rowT_len]; omega)]
  unfold rowT
  rw [mkZ_get _ hi, mkZ_get _ hi]
  by_cases e : i = u
  · subst e; rw [if_pos rfl, if_pos (by omega)]
  · rw [if_neg e]
    by_cases f : (u : Int) < (i : Int)
    · rw [if_pos f, if_pos (by omega)]
    · rw [if_neg f, if_neg (by omega)]
theorem rowT_same {ps : List Pl} {W k u : Nat} (hu : u ≤ W) (h : yT ps (k + 1) u = yT ps k u) : rowT ps W k (u : Int) = rowT ps W k ((u : Int) - 1) := by
  unfold rowT
  refine mkZ_ext fun x hx => ?_
  by_cases e : x = u
  · subst e; rw [if_neg (by omega), if_pos (by omega), h]
  · by_cases f : (u : Int) < (x : Int)
    · rw [if_pos f, if_pos (by omega)]
    · rw [if_neg f, if_neg (by omega)]
/-- the model's way: from below -/
def rowU (ps : List Pl) (W k : Nat) (u : Int) : List Int := mkZ (W + 1) fun x => if (x : Int) < u then yT ps (k + 1) x else yT ps k x
theorem rowU_len (ps : List Pl) (W k : Nat) (u : Int) : (rowU ps W k u).length = W + 1 := by unfold rowU; rw [mkZ_len]
theorem rowU_start {ps : List Pl} {W k : Nat} : rowU ps W k (ps.getD k pl0).1 = rowY ps W k := by
  unfold rowU rowY
  refine mkZ_ext fun x hx => ?_
  by_cases c : (x : Int) < (ps.getD k pl0).1
  · rw [if_pos c, yT_no (by omega)]
  · rw [if_neg c]
theorem rowU_end {ps : List Pl} {W k : Nat} {u : Int} (h : (W : Int) < u) : rowU ps W k u = rowY ps W (k + 1) := by
  unfold rowU rowY; exact mkZ_ext fun x hx => if_pos (by omega)
theorem rowU_own {ps : List Pl} {W k u : Nat} (hu : u ≤ W) : (rowU ps W k (u : Int)).getD u 0 = yT ps k u := by
  unfold rowU; rw [mkZ_get _ (by omega), if_neg (by omega)]
theorem rowU_set {ps : List Pl} {W k u : Nat} (hu : u ≤ W) : (rowU ps W k (u : Int)).set u (yT ps (k + 1) u) = rowU ps W k ((u : Int) + 1) := by
  refine ext_z (by rw [List.length_set, rowU_len, rowU_len]) (fun i hi => ?_)
  rw [List.length_set, rowU_len] at hi
  rw [getD_setZ i _ (by rw [rowU_len]; omega)]
  unfold rowU
  rw [mkZ_get _ hi, mkZ_get _ hi]
  by_cases e : i = u
  · subst e; rw [if_pos rfl, if_pos (by omega)]
  · rw [if_neg e]
    by_cases f : (i : Int) < (u : Int)
    · rw [if_pos f, if_pos (by omega)]
    · rw [if_neg f, if_neg (by omega)]
theorem rowY_zero (ps : List Pl) (W : Nat) : rowY ps W 0 = List.replicate (W + 1) 0 := by
  refine ext_z (by rw [rowY_len, List.length_replicate]) (fun i hi => ?_)
  rw [rowY_len] at hi
  rw [rowY_get (by omega), repl_get]; rfl
/-- the plots that have it -/
def selTo (ps : List Pl) : Nat → Nat → List Int
  | 0, _ => []
  | k + 1, w => if yT ps k w < yT ps (k + 1) w then selTo ps k (w - (ps.getD k pl0).1.toNat) ++ [(k : Int)] else selTo ps k w
theorem sel_yes {ps : List Pl} {k w : Nat} (h : yT ps k w < yT ps (k + 1) w) : selTo ps (k + 1) w = selTo ps k (w - (ps.getD k pl0).1.toNat) ++ [(k : Int)] := if_pos h
theorem sel_no {ps : List Pl} {k w : Nat} (h : ¬ yT ps k w < yT ps (k + 1) w) : selTo ps (k + 1) w = selTo ps k w := if_neg h
/-- a plot that yields more needs no more than there is -/
theorem sel_need {ps : List Pl} {k w : Nat} (h : yT ps k w < yT ps (k + 1) w) : (ps.getD k pl0).1 ≤ (w : Int) ∧ yT ps (k + 1) w = yT ps k (w - (ps.getD k pl0).1.toNat) + (ps.getD k pl0).2 := by
  by_cases c : (ps.getD k pl0).1 ≤ (w : Int)
  · refine ⟨c, ?_⟩
    rw [yT_yes c] at h ⊢; omega
  · rw [yT_no c] at h; omega
theorem sel_len (ps : List Pl) : ∀ k w, (selTo ps k w).length ≤ k := by
  intro k
  induction k with
  | zero => intro w; exact Nat.le_refl _
  | succ k ih =>
    intro w
    by_cases h : yT ps k w < yT ps (k + 1) w
    · rw [sel_yes h, List.length_append]
      have := ih (w - (ps.getD k pl0).1.toNat)
      show _ + 1 ≤ _; omega
    · rw [sel_no h]; have := ih w; omega
def bpV (ps : List Pl) (w : Int) : List Int := if wpB ps w = true then selTo ps ps.length w.toNat else []
theorem bpV_no {ps : List Pl} {w : Int} (h : wpB ps w = false) : bpV ps w = [] := by unfold bpV; rw [h]; rfl
theorem bpV_yes {ps : List Pl} {w : Nat} (h : wpB ps (w : Int) = true) : bpV ps (w : Int) = selTo ps ps.length w := by
  unfold bpV; rw [h, if_pos rfl, show ((w : Int)).toNat = w from by omega]
theorem bpV_len (ps : List Pl) (w : Int) : (bpV ps w).length ≤ ps.length := by
  unfold bpV; split
  · exact sel_len _ _ _
  · exact Nat.zero_le _
/-- sums of needs and of yields -/
def needS (ps : List Pl) : List Int → Int
  | [] => 0
  | z :: t => (ps.getD z.toNat pl0).1 + needS ps t
def yldS (ps : List Pl) : List Int → Int
  | [] => 0
  | z :: t => (ps.getD z.toNat pl0).2 + yldS ps t
theorem needS_app (ps : List Pl) : ∀ a b : List Int, needS ps (a ++ b) = needS ps a + needS ps b := by
  intro a b
  induction a with
  | nil => show needS ps b = 0 + _; omega
  | cons z t ih => show _ + needS ps (t ++ b) = _ + _ + _; rw [ih]; omega
theorem yldS_app (ps : List Pl) : ∀ a b : List Int, yldS ps (a ++ b) = yldS ps a + yldS ps b := by
  intro a b
  induction a with
  | nil => show yldS ps b = 0 + _; omega
  | cons z t ih => show _ + yldS ps (t ++ b) = _ + _ + _; rw [ih]; omega
theorem needS_snoc (ps : List Pl) (a : List Int) (z : Int) : needS ps (a ++ [z]) = needS ps a + (ps.getD z.toNat pl0).1 := by
  rw [needS_app]; show _ + (_ + 0) = _; omega
theorem yldS_snoc (ps : List Pl) (a : List Int) (z : Int) : yldS ps (a ++ [z]) = yldS ps a + (ps.getD z.toNat pl0).2 := by
  rw [yldS_app]; show _ + (_ + 0) = _; omega
theorem take_snocZ (zs : List Int) {k : Nat} (h : k < zs.length) : zs.take (k + 1) = zs.take k ++ [zs.getD k 0] := by
  rw [List.take_add_one, List.getD_eq_getElem?_getD, List.getElem?_eq_getElem h]; rfl
/-- an index that may come next -/
def okP (ps : List Pl) (ks : List Int) (k : Nat) : Bool := (decide (0 ≤ ks.getD k 0) && decide (ks.getD k 0 < (ps.length : Int))) && !decide (ks.getD k 0 ∈ ks.take k)
def pnB (ps : List Pl) (ks : List Int) : Bool := vpB ps && (List.range ks.length).all (okP ps ks)
theorem pn_is {ps : List Pl} {ks : List Int} (h : pnB ps ks = true) : vpB ps = true ∧ ∀ k, k < ks.length → okP ps ks k = true := by
  unfold pnB at h
  simp only [Bool.and_eq_true, List.all_eq_true, List.mem_range] at h
  exact h
theorem pn_yes {ps : List Pl} {ks : List Int} (h : vpB ps = true) (h2 : ∀ k, k < ks.length → okP ps ks k = true) : pnB ps ks = true := by
  unfold pnB
  simp only [Bool.and_eq_true, List.all_eq_true, List.mem_range]
  exact ⟨h, h2⟩
theorem pn_no1 {ps : List Pl} {ks : List Int} (h : vpB ps = false) : pnB ps ks = false := by unfold pnB; rw [h]; rfl
theorem pn_no2 {ps : List Pl} {ks : List Int} {k : Nat} (hk : k < ks.length) (h : okP ps ks k = false) : pnB ps ks = false := by
  cases e : pnB ps ks with
  | false => rfl
  | true => have := (pn_is e).2 k hk; rw [h] at this; cases this
theorem okP_iff {ps : List Pl} {ks : List Int} {k : Nat} : okP ps ks k = true ↔ (0 ≤ ks.getD k 0 ∧ ks.getD k 0 < (ps.length : Int)) ∧ ks.getD k 0 ∉ ks.take k := by
  unfold okP; simp only [Bool.and_eq_true, decide_eq_true_eq, Bool.not_eq_true', decide_eq_false_iff_not]
theorem okP_no {ps : List Pl} {ks : List Int} {k : Nat} (h : ks.getD k 0 < 0 ∨ (ps.length : Int) ≤ ks.getD k 0 ∨ ks.getD k 0 ∈ ks.take k) : okP ps ks k = false := by
  cases e : okP ps ks k with
  | false => rfl
  | true =>
    obtain ⟨⟨a, b⟩, c⟩ := okP_iff.1 e
    rcases h with h | h | h
    · omega
    · omega
    · exact absurd h c
def pnN (ps : List Pl) (ks : List Int) : Int := if pnB ps ks = true then needS ps ks else -1
def pnY (ps : List Pl) (ks : List Int) : Int := if pnB ps ks = true then yldS ps ks else -1
theorem pn_no {ps : List Pl} {ks : List Int} (h : pnB ps ks = false) : pnN ps ks = -1 ∧ pnY ps ks = -1 := by unfold pnN pnY; rw [h]; exact ⟨rfl, rfl⟩
theorem pn_val {ps : List Pl} {ks : List Int} (h : pnB ps ks = true) : pnN ps ks = needS ps ks ∧ pnY ps ks = yldS ps ks := by unfold pnN pnY; rw [h]; exact ⟨rfl, rfl⟩
/-- distinct indices: no more of them than plots -/
theorem pn_nodup {ks : List Int} {ps : List Pl} : ∀ k, k ≤ ks.length → (∀ j, j < k → okP ps ks j = true) → (ks.take k).Nodup ∧ ∀ z ∈ ks.take k, 0 ≤ z ∧ z < (ps.length : Int) := by
  intro k
  induction k with
  | zero => intro _ _; exact ⟨by simp, by simp⟩
  | succ k ih =>
    intro hk h
    obtain ⟨a, b⟩ := ih (by omega) (fun j hj => h j (by omega))
    obtain ⟨c, d⟩ := okP_iff.1 (h k (by omega))
    rw [take_snocZ ks (by omega)]
    refine ⟨?_, ?_⟩
    · rw [List.nodup_append]
      refine ⟨a, by simp, ?_⟩
      intro x hx y hy e
      rw [List.mem_singleton] at hy
      subst hy; subst e
      exact d hx
    · intro z hz
      rcases List.mem_append.1 hz with hz | hz
      · exact b z hz
      · rw [List.mem_singleton] at hz; subst hz; exact c
theorem ptsum_bd {ps : List Pl} (h : vpB ps = true) : ∀ l : List Int, (∀ z ∈ l, 0 ≤ z ∧ z < (ps.length : Int)) → (0 ≤ needS ps l ∧ needS ps l ≤ 500 * (l.length : Int)) ∧ (0 ≤ yldS ps l ∧ yldS ps l ≤ 1000 * (l.length : Int)) := by
  intro l
  induction l with
  | nil => intro _; exact ⟨⟨Int.le_refl _, Int.le_refl _⟩, Int.le_refl _, Int.le_refl _⟩
  | cons z t ih =>
    intro hz
    have a := ih (fun x hx => hz x (List.mem_cons_of_mem _ hx))
    have b := hz z (List.mem_cons_self ..)
    have c := vp_at h (k := z.toNat) (by omega)
    show (0 ≤ _ + needS ps t ∧ _ + needS ps t ≤ 500 * ((t.length + 1 : Nat) : Int)) ∧ (0 ≤ _ + yldS ps t ∧ _ + yldS ps t ≤ 1000 * ((t.length + 1 : Nat) : Int))
    omega
end Go.Proofs.Ytigapnbpgbfbhac
