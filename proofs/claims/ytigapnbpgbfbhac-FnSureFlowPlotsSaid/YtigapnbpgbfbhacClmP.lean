/- Claims (pure): units given one by one to the fewest, units taken one by one, halves, what is left for the last. No condition but those stated. -/
import Derived.Test.YtigapnbpgbfbhacGrA
namespace Go.Proofs.Ytigapnbpgbfbhac
set_option linter.unusedVariables false
set_option linter.unusedSimpArgs false

/-- units that can be divided among claims -/
def vcB (n : Int) (cs : List Int) : Bool := allB cs 500 && decide (cs.length ≤ 12) && decide (0 ≤ n) && decide (n ≤ cs.sum)
theorem vc_iff {n : Int} {cs : List Int} : vcB n cs = true ↔ allB cs 500 = true ∧ cs.length ≤ 12 ∧ 0 ≤ n ∧ n ≤ cs.sum := by
  unfold vcB; simp only [Bool.and_eq_true, decide_eq_true_eq]; constructor
  · rintro ⟨⟨⟨a, b⟩, c⟩, d⟩; exact ⟨a, b, c, d⟩
  · rintro ⟨a, b, c, d⟩; exact ⟨⟨⟨a, b⟩, c⟩, d⟩
theorem vc_no {n : Int} {cs : List Int} (h : ¬ (allB cs 500 = true ∧ cs.length ≤ 12 ∧ 0 ≤ n ∧ n ≤ cs.sum)) : vcB n cs = false := by
  rw [Bool.eq_false_iff]; exact fun c => h (vc_iff.1 c)
theorem allB_get {cs : List Int} {m : Int} (h : allB cs m = true) {i : Nat} (hi : i < cs.length) : 0 ≤ cs.getD i 0 ∧ cs.getD i 0 ≤ m := (allB_iff cs m).1 h _ (getD_mem hi)
theorem sum_bdZ (m : Int) : ∀ (zs : List Int), (∀ z ∈ zs, 0 ≤ z ∧ z ≤ m) → 0 ≤ zs.sum ∧ zs.sum ≤ m * (zs.length : Int) := by
  intro zs
  induction zs with
  | nil => intro _; simp
  | cons x t ih =>
    intro h
    have a := h x (by simp)
    have b := ih (fun z hz => h z (by simp [hz]))
    rw [List.sum_cons, List.length_cons, show ((t.length + 1 : Nat) : Int) = (t.length : Int) + 1 by omega, Int.mul_add]
    omega
theorem vc_bd {cs : List Int} (h : allB cs 500 = true) (hl : cs.length ≤ 12) : 0 ≤ cs.sum ∧ cs.sum ≤ 6000 := by
  have := sum_bdZ 500 cs ((allB_iff cs 500).1 h); omega
theorem sum_setZ : ∀ (l : List Int) (b : Nat) (v : Int), b < l.length → (l.set b v).sum = l.sum - l.getD b 0 + v := by
  intro l
  induction l with
  | nil => intro b v h; simp at h
  | cons x t ih =>
    intro b v h
    cases b with
    | zero => simp only [List.set_cons_zero, List.sum_cons, List.getD_cons_zero]; omega
    | succ b =>
      have := ih b v (by simpa using h)
      simp only [List.set_cons_succ, List.sum_cons, List.getD_cons_succ]; omega
theorem sum_leZ : ∀ (a b : List Int), a.length = b.length → (∀ i, i < a.length → a.getD i 0 ≤ b.getD i 0) → a.sum ≤ b.sum := by
  intro a
  induction a with
  | nil => intro b hl _; have : b = [] := List.eq_nil_of_length_eq_zero (by simpa using hl.symm); subst this; exact Int.le_refl _
  | cons x t ih =>
    intro b hl h
    cases b with
    | nil => simp at hl
    | cons y s =>
      have h0 := h 0 (by simp)
      simp only [List.getD_cons_zero] at h0
      have := ih s (by simpa using hl) (fun i hi => by have := h (i + 1) (by simp; omega); simpa using this)
      rw [List.sum_cons, List.sum_cons]; omega
theorem revZ_get (zs : List Int) {i : Nat} (h : i < zs.length) : zs.reverse.getD i 0 = zs.getD (zs.length - 1 - i) 0 := by
  rw [List.getD_eq_getElem?_getD, List.getD_eq_getElem?_getD, List.getElem?_reverse h]
theorem revZ_sum (zs : List Int) : zs.reverse.sum = zs.sum := by
  induction zs with
  | nil => rfl
  | cons x t ih => rw [List.reverse_cons, List.sum_append, ih, List.sum_cons]; simp; omega
theorem revZ_all (zs : List Int) (m : Int) : allB zs.reverse m = allB zs m := by
  rw [Bool.eq_iff_iff, allB_iff, allB_iff]; simp
/-- differences, place by place -/
def subZ (us vs : List Int) : List Int := (List.range us.length).map fun i => us.getD i 0 - vs.getD i 0
theorem subZ_len (us vs : List Int) : (subZ us vs).length = us.length := by unfold subZ; simp
theorem subZ_get (us vs : List Int) {i : Nat} (h : i < us.length) : (subZ us vs).getD i 0 = us.getD i 0 - vs.getD i 0 := by
  unfold subZ
  rw [List.getD_eq_getElem?_getD, List.getElem?_map, List.getElem?_range h]; rfl
/-- sums, place by place -/
def addZ (us vs : List Int) : List Int := (List.range us.length).map fun i => us.getD i 0 + vs.getD i 0
theorem addZ_len (us vs : List Int) : (addZ us vs).length = us.length := by unfold addZ; simp
theorem addZ_get (us vs : List Int) {i : Nat} (h : i < us.length) : (addZ us vs).getD i 0 = us.getD i 0 + vs.getD i 0 := by
  unfold addZ
  rw [List.getD_eq_getElem?_getD, List.getElem?_map, List.getElem?_range h]; rfl
theorem map_sum_sub (f g : Nat → Int) : ∀ l : List Nat, (l.map fun i => f i - g i).sum = (l.map f).sum - (l.map g).sum := by
  intro l
  induction l with
  | nil => rfl
  | cons x t ih => simp only [List.map_cons, List.sum_cons, ih]; omega
theorem map_sum_add (f g : Nat → Int) : ∀ l : List Nat, (l.map fun i => f i + g i).sum = (l.map f).sum + (l.map g).sum := by
  intro l
  induction l with
  | nil => rfl
  | cons x t ih => simp only [List.map_cons, List.sum_cons, ih]; omega
theorem range_self (zs : List Int) : (List.range zs.length).map (fun i => zs.getD i 0) = zs := by
  refine ext_z (by simp) (fun i hi => ?_)
  have hi' : i < zs.length := by simpa using hi
  rw [List.getD_eq_getElem?_getD, List.getElem?_map, List.getElem?_range hi']; rfl
theorem subZ_sum {us vs : List Int} (h : vs.length = us.length) : (subZ us vs).sum = us.sum - vs.sum := by
  unfold subZ
  rw [map_sum_sub, range_self, ← h, range_self]
theorem addZ_sum {us vs : List Int} (h : vs.length = us.length) : (addZ us vs).sum = us.sum + vs.sum := by
  unfold addZ
  rw [map_sum_add, range_self, ← h, range_self]

/-- of the first k claims the first of those that are not met with the fewest units; -1: none -/
def leastTo (cs gs : List Int) : Nat → Int
  | 0 => -1
  | k + 1 => if gs.getD k 0 < cs.getD k 0 ∧ (leastTo cs gs k < 0 ∨ gs.getD k 0 < gs.getD (leastTo cs gs k).toNat 0) then (k : Int) else leastTo cs gs k
theorem leastC_is (cs gs : List Int) : ∀ k, (leastTo cs gs k = -1 ∧ ∀ j, j < k → ¬ gs.getD j 0 < cs.getD j 0) ∨ ∃ b : Nat, leastTo cs gs k = (b : Int) ∧ b < k ∧ gs.getD b 0 < cs.getD b 0 ∧ (∀ j, j < k → gs.getD j 0 < cs.getD j 0 → gs.getD b 0 ≤ gs.getD j 0) ∧ (∀ j, j < b → gs.getD j 0 < cs.getD j 0 → gs.getD b 0 < gs.getD j 0) := by
  intro k
  induction k with
  | zero => exact .inl ⟨rfl, fun j hj => absurd hj (Nat.not_lt_zero j)⟩
  | succ k ih =>
    show (ite _ _ _ = -1 ∧ _) ∨ ∃ b : Nat, ite _ _ _ = (b : Int) ∧ _
    rcases ih with ⟨e, h⟩ | ⟨b, e, hb, h0, h1, h2⟩
    · rw [e]
      by_cases c : gs.getD k 0 < cs.getD k 0
      · rw [if_pos ⟨c, .inl (by omega)⟩]
        refine .inr ⟨k, rfl, by omega, c, fun j hj hjc => ?_, fun j hj hjc => absurd hjc (h j hj)⟩
        by_cases ejk : j = k
        · subst ejk; exact Int.le_refl _
        · exact absurd hjc (h j (by omega))
      · rw [if_neg (fun x => c x.1)]
        refine .inl ⟨rfl, fun j hj => ?_⟩
        by_cases ejk : j = k
        · subst ejk; exact c
        · exact h j (by omega)
    · rw [e]
      have tb : ((b : Int)).toNat = b := by omega
      rw [tb]
      by_cases c : gs.getD k 0 < cs.getD k 0 ∧ gs.getD k 0 < gs.getD b 0
      · rw [if_pos ⟨c.1, .inr c.2⟩]
        refine .inr ⟨k, rfl, by omega, c.1, fun j hj hjc => ?_, fun j hj hjc => ?_⟩
        · by_cases ejk : j = k
          · subst ejk; exact Int.le_refl _
          · have := h1 j (by omega) hjc; omega
        · have := h1 j hj hjc; omega
      · rw [if_neg (fun x => c ⟨x.1, x.2.resolve_left (by omega)⟩)]
        refine .inr ⟨b, rfl, by omega, h0, fun j hj hjc => ?_, h2⟩
        by_cases ejk : j = k
        · subst ejk
          by_cases d : gs.getD j 0 < gs.getD b 0
          · exact absurd ⟨hjc, d⟩ c
          · omega
        · exact h1 j (by omega) hjc
theorem least_bd (cs gs : List Int) (k : Nat) : leastTo cs gs k = -1 ∨ ∃ b : Nat, leastTo cs gs k = (b : Int) ∧ b < k := by
  rcases leastC_is cs gs k with ⟨e, _⟩ | ⟨b, e, h, _⟩
  · exact .inl e
  · exact .inr ⟨b, e, h⟩
/-- one unit more -/
def stepG (cs gs : List Int) : List Int := gs.set (leastTo cs gs cs.length).toNat (gs.getD (leastTo cs gs cs.length).toNat 0 + 1)
/-- units given one by one -/
def fillN (cs : List Int) : Nat → List Int
  | 0 => List.replicate cs.length 0
  | u + 1 => stepG cs (fillN cs u)
/-- a division with equal gains -/
def Fair (cs gs : List Int) (n : Int) : Prop := gs.length = cs.length ∧ gs.sum = n ∧ (∀ i, i < cs.length → 0 ≤ gs.getD i 0 ∧ gs.getD i 0 ≤ cs.getD i 0) ∧ ∀ i k, i < cs.length → k < cs.length → gs.getD i 0 < cs.getD i 0 → gs.getD k 0 ≤ gs.getD i 0 + 1
theorem rep_get (m i : Nat) : (List.replicate m (0 : Int)).getD i 0 = 0 := by
  rw [List.getD_eq_getElem?_getD, List.getElem?_replicate]; split <;> rfl
theorem rep_sum (m : Nat) : (List.replicate m (0 : Int)).sum = 0 := by
  induction m with
  | zero => rfl
  | succ m ih => rw [List.replicate_succ, List.sum_cons, ih]; rfl
theorem fair_at {cs gs : List Int} {n : Int} (h : Fair cs gs n) (hn : n < cs.sum) : ∃ b : Nat, leastTo cs gs cs.length = (b : Int) ∧ b < cs.length ∧ gs.getD b 0 < cs.getD b 0 ∧ (∀ j, j < cs.length → gs.getD j 0 < cs.getD j 0 → gs.getD b 0 ≤ gs.getD j 0) ∧ (∀ j, j < b → gs.getD j 0 < cs.getD j 0 → gs.getD b 0 < gs.getD j 0) := by
  rcases leastC_is cs gs cs.length with ⟨_, h1⟩ | h1
  · exfalso
    have := sum_leZ cs gs h.1.symm (fun i hi => by have := h1 i hi; omega)
    have := h.2.1
    omega
  · exact h1
theorem fair_step {cs gs : List Int} {n : Int} (h : Fair cs gs n) (hn : n < cs.sum) : Fair cs (stepG cs gs) (n + 1) := by
  obtain ⟨b, e, hb, h0, h1, _⟩ := fair_at h hn
  obtain ⟨hl, hs, h2, h3⟩ := h
  unfold stepG
  rw [e, show ((b : Int)).toNat = b by omega]
  have gt : ∀ i, (gs.set b (gs.getD b 0 + 1)).getD i 0 = if i = b then gs.getD b 0 + 1 else gs.getD i 0 := fun i => getD_setZ i _ (by omega)
  refine ⟨by rw [List.length_set]; exact hl, by rw [sum_setZ _ _ _ (by omega), hs]; omega, fun i hi => ?_, fun i k hi hk => ?_⟩
  · rw [gt]
    have := h2 i hi
    by_cases c : i = b
    · subst c; rw [if_pos rfl]; omega
    · rw [if_neg c]; exact this
  · rw [gt, gt]
    have a := h3 i k hi hk
    by_cases c : i = b
    · subst c
      rw [if_pos rfl]
      intro hlt
      by_cases d : k = i
      · rw [if_pos d]; omega
      · rw [if_neg d]; have := a (by omega); omega
    · rw [if_neg c]
      intro hlt
      by_cases d : k = b
      · rw [if_pos d]; have := h1 i hi hlt; omega
      · rw [if_neg d]; exact a hlt
theorem fill_fair {cs : List Int} (hc : ∀ i, i < cs.length → 0 ≤ cs.getD i 0) : ∀ u : Nat, (u : Int) ≤ cs.sum → Fair cs (fillN cs u) (u : Int) := by
  intro u
  induction u with
  | zero =>
    intro _
    refine ⟨List.length_replicate .., rep_sum _, fun i hi => ?_, fun i k hi hk hlt => ?_⟩
    · show 0 ≤ (List.replicate _ _).getD i 0 ∧ _
      have := hc i hi
      show 0 ≤ (List.replicate _ _).getD i 0 ∧ (List.replicate _ _).getD i 0 ≤ _
      rw [rep_get]; omega
    · show (List.replicate _ _).getD k 0 ≤ (List.replicate _ _).getD i 0 + 1
      rw [rep_get, rep_get]; omega
  | succ u ih =>
    intro h
    have := fair_step (ih (by omega)) (by omega)
    rwa [show ((u : Int) + 1) = ((u + 1 : Nat) : Int) by omega] at this
theorem fill_len (cs : List Int) : ∀ u, (fillN cs u).length = cs.length := by
  intro u
  induction u with
  | zero => exact List.length_replicate ..
  | succ u ih => show (stepG _ _).length = _; unfold stepG; rw [List.length_set]; exact ih

/-- of the first k claims the last of those that have units still with the fewest units lost; -1: none -/
def lastTo (cs os : List Int) : Nat → Int
  | 0 => -1
  | k + 1 => if 0 < os.getD k 0 ∧ (lastTo cs os k < 0 ∨ cs.getD k 0 - os.getD k 0 ≤ cs.getD (lastTo cs os k).toNat 0 - os.getD (lastTo cs os k).toNat 0) then (k : Int) else lastTo cs os k
theorem last_is (cs os : List Int) : ∀ k, (lastTo cs os k = -1 ∧ ∀ j, j < k → ¬ 0 < os.getD j 0) ∨ ∃ b : Nat, lastTo cs os k = (b : Int) ∧ b < k ∧ 0 < os.getD b 0 ∧ (∀ j, j < k → 0 < os.getD j 0 → cs.getD b 0 - os.getD b 0 ≤ cs.getD j 0 - os.getD j 0) ∧ (∀ j, b < j → j < k → 0 < os.getD j 0 → cs.getD b 0 - os.getD b 0 < cs.getD j 0 - os.getD j 0) := by
  intro k
  induction k with
  | zero => exact .inl ⟨rfl, fun j hj => absurd hj (Nat.not_lt_zero j)⟩
  | succ k ih =>
    show (ite _ _ _ = -1 ∧ _) ∨ ∃ b : Nat, ite _ _ _ = (b : Int) ∧ _
    rcases ih with ⟨e, h⟩ | ⟨b, e, hb, h0, h1, h2⟩
    · rw [e]
      by_cases c : 0 < os.getD k 0
      · rw [if_pos ⟨c, .inl (by omega)⟩]
        refine .inr ⟨k, rfl, by omega, c, fun j hj hjc => ?_, fun j hj hj2 hjc => absurd hj2 (by omega)⟩
        by_cases ejk : j = k
        · subst ejk; exact Int.le_refl _
        · exact absurd hjc (h j (by omega))
      · rw [if_neg (fun x => c x.1)]
        refine .inl ⟨rfl, fun j hj => ?_⟩
        by_cases ejk : j = k
        · subst ejk; exact c
        · exact h j (by omega)
    · rw [e]
      have tb : ((b : Int)).toNat = b := by omega
      rw [tb]
      by_cases c : 0 < os.getD k 0 ∧ cs.getD k 0 - os.getD k 0 ≤ cs.getD b 0 - os.getD b 0
      · rw [if_pos ⟨c.1, .inr c.2⟩]
        refine .inr ⟨k, rfl, by omega, c.1, fun j hj hjc => ?_, fun j hj hj2 hjc => absurd hj2 (by omega)⟩
        by_cases ejk : j = k
        · subst ejk; exact Int.le_refl _
        · have := h1 j (by omega) hjc; omega
      · rw [if_neg (fun x => c ⟨x.1, x.2.resolve_left (by omega)⟩)]
        refine .inr ⟨b, rfl, by omega, h0, fun j hj hjc => ?_, fun j hj hj2 hjc => ?_⟩
        · by_cases ejk : j = k
          · subst ejk
            by_cases d : cs.getD j 0 - os.getD j 0 ≤ cs.getD b 0 - os.getD b 0
            · exact absurd ⟨hjc, d⟩ c
            · omega
          · exact h1 j (by omega) hjc
        · by_cases ejk : j = k
          · subst ejk
            by_cases d : cs.getD j 0 - os.getD j 0 ≤ cs.getD b 0 - os.getD b 0
            · exact absurd ⟨hjc, d⟩ c
            · omega
          · exact h2 j hj (by omega) hjc
theorem last_bd (cs os : List Int) (k : Nat) : lastTo cs os k = -1 ∨ ∃ b : Nat, lastTo cs os k = (b : Int) ∧ b < k := by
  rcases last_is cs os k with ⟨e, _⟩ | ⟨b, e, h, _⟩
  · exact .inl e
  · exact .inr ⟨b, e, h⟩
/-- one unit less -/
def stepL (cs os : List Int) : List Int := os.set (lastTo cs os cs.length).toNat (os.getD (lastTo cs os cs.length).toNat 0 - 1)
/-- units taken one by one -/
def lossN (cs : List Int) : Nat → List Int
  | 0 => cs
  | u + 1 => stepL cs (lossN cs u)
/-- what is left if units are lost as they are gained, the claims turned round -/
def lossT (cs : List Int) (u : Nat) : List Int := subZ cs (fillN cs.reverse u).reverse
theorem lossT_get (cs : List Int) (u : Nat) {i : Nat} (h : i < cs.length) : (lossT cs u).getD i 0 = cs.getD i 0 - (fillN cs.reverse u).getD (cs.length - 1 - i) 0 := by
  have hl := fill_len cs.reverse u
  rw [List.length_reverse] at hl
  unfold lossT
  rw [subZ_get _ _ h, revZ_get _ (by omega), hl]
theorem loss_fill {cs : List Int} (hc : ∀ i, i < cs.length → 0 ≤ cs.getD i 0) : ∀ u : Nat, (u : Int) ≤ cs.sum → lossN cs u = lossT cs u := by
  intro u
  induction u with
  | zero =>
    intro _
    refine ext_z (by unfold lossT; rw [subZ_len]; rfl) (fun i hi => ?_)
    have hi' : i < cs.length := hi
    rw [lossT_get _ _ hi']
    show _ = _ - (List.replicate _ _).getD _ 0
    rw [rep_get]; show cs.getD i 0 = _; omega
  | succ u ih =>
    intro hu
    have ihu := ih (by omega)
    have hrc : ∀ i, i < cs.reverse.length → 0 ≤ cs.reverse.getD i 0 := fun i hi => by
      rw [List.length_reverse] at hi
      rw [revZ_get _ hi]; exact hc _ (by omega)
    have F := fill_fair hrc u (by rw [revZ_sum]; omega)
    obtain ⟨b, e, hb, h0, h1, h2⟩ := fair_at F (by rw [revZ_sum]; omega)
    have hl := fill_len cs.reverse u
    rw [List.length_reverse] at hl hb h1
    have G := fun i (hi : i < cs.length) => lossT_get cs u hi
    have gl : (lossT cs u).length = cs.length := by unfold lossT; rw [subZ_len]
    have e2 : lastTo cs (lossT cs u) cs.length = ((cs.length - 1 - b : Nat) : Int) := by
      have hpos : 0 < (lossT cs u).getD (cs.length - 1 - b) 0 := by
        rw [G _ (by omega), show cs.length - 1 - (cs.length - 1 - b) = b by omega]
        rw [revZ_get _ hb] at h0; omega
      rcases last_is cs (lossT cs u) cs.length with ⟨_, n⟩ | ⟨c, ec, hcl, c0, c1, c2⟩
      · exact absurd hpos (n _ (by omega))
      · rw [ec]
        have Gc := G c hcl
        rw [Gc] at c0
        have lc : (fillN cs.reverse u).getD (cs.length - 1 - c) 0 < cs.reverse.getD (cs.length - 1 - c) 0 := by
          rw [revZ_get _ (by omega), show cs.length - 1 - (cs.length - 1 - c) = c by omega]; omega
        have A := h1 (cs.length - 1 - c) (by omega) lc
        have Gb := G (cs.length - 1 - b) (by omega)
        rw [show cs.length - 1 - (cs.length - 1 - b) = b by omega] at Gb
        have C := c1 (cs.length - 1 - b) (by omega) hpos
        rcases Nat.lt_trichotomy c (cs.length - 1 - b) with lt | eq | gt
        · have := c2 (cs.length - 1 - b) lt (by omega) hpos; omega
        · rw [eq]
        · have := h2 (cs.length - 1 - c) (by omega) lc; omega
    show stepL cs (lossN cs u) = _
    rw [ihu]
    unfold stepL
    rw [e2, show (((cs.length - 1 - b : Nat) : Int)).toNat = cs.length - 1 - b by omega]
    refine ext_z (by rw [List.length_set, gl]; unfold lossT; rw [subZ_len]) (fun i hi => ?_)
    rw [List.length_set, gl] at hi
    rw [getD_setZ i _ (by omega), lossT_get cs (u + 1) hi]
    show _ = _ - (stepG cs.reverse (fillN cs.reverse u)).getD _ 0
    unfold stepG
    rw [e, show ((b : Int)).toNat = b by omega, getD_setZ _ _ (by rw [hl]; exact hb)]
    by_cases c : i = cs.length - 1 - b
    · rw [if_pos c, if_pos (by omega), G _ (by omega), show cs.length - 1 - (cs.length - 1 - b) = b by omega, c]; omega
    · rw [if_neg c, if_neg (by omega), G i hi]
theorem lossT_len (cs : List Int) (u : Nat) : (lossT cs u).length = cs.length := by unfold lossT; rw [subZ_len]
/-- what units lost as gains turned round leave -/
theorem lossT_fair {cs : List Int} (hc : ∀ i, i < cs.length → 0 ≤ cs.getD i 0) {u : Nat} (hu : (u : Int) ≤ cs.sum) :
    (lossT cs u).sum = cs.sum - u ∧ (∀ i, i < cs.length → 0 ≤ (lossT cs u).getD i 0 ∧ (lossT cs u).getD i 0 ≤ cs.getD i 0) ∧ ∀ i k, i < cs.length → k < cs.length → 0 < (lossT cs u).getD i 0 → cs.getD k 0 - (lossT cs u).getD k 0 ≤ cs.getD i 0 - (lossT cs u).getD i 0 + 1 := by
  have hrc : ∀ i, i < cs.reverse.length → 0 ≤ cs.reverse.getD i 0 := fun i hi => by
    rw [List.length_reverse] at hi
    rw [revZ_get _ hi]; exact hc _ (by omega)
  obtain ⟨F1, F2, F3, F4⟩ := fill_fair hrc u (by rw [revZ_sum]; omega)
  rw [List.length_reverse] at F1
  have F3' := fun i (hi : i < cs.length) => F3 i (by rw [List.length_reverse]; exact hi)
  refine ⟨?_, fun i hi => ?_, fun i k hi hk => ?_⟩
  · unfold lossT
    rw [subZ_sum (by rw [List.length_reverse]; exact F1), revZ_sum, F2]
  · have a := F3' (cs.length - 1 - i) (by omega)
    rw [revZ_get _ (by omega), show cs.length - 1 - (cs.length - 1 - i) = i by omega] at a
    rw [lossT_get cs u hi]; omega
  · rw [lossT_get cs u hi, lossT_get cs u hk]
    intro h
    have := F4 (cs.length - 1 - i) (cs.length - 1 - k) (by rw [List.length_reverse]; omega) (by rw [List.length_reverse]; omega) (by
      rw [revZ_get _ (by omega), show cs.length - 1 - (cs.length - 1 - i) = i by omega]; omega)
    omega

/-- EqualGains -/
def gainV (n : Int) (cs : List Int) : List Int := if vcB n cs = true then fillN cs n.toNat else []
/-- EqualLosses -/
def lossV (n : Int) (cs : List Int) : List Int := if vcB n cs = true then lossT cs (cs.sum - n).toNat else []
theorem gain_yes {n : Int} {cs : List Int} (h : vcB n cs = true) : gainV n cs = fillN cs n.toNat := if_pos h
theorem gain_no {n : Int} {cs : List Int} (h : vcB n cs = false) : gainV n cs = [] := by unfold gainV; rw [h]; rfl
theorem loss_yes {n : Int} {cs : List Int} (h : vcB n cs = true) : lossV n cs = lossT cs (cs.sum - n).toNat := if_pos h
theorem loss_no {n : Int} {cs : List Int} (h : vcB n cs = false) : lossV n cs = [] := by unfold lossV; rw [h]; rfl
theorem gain_len {n : Int} {cs : List Int} (h : vcB n cs = true) : (gainV n cs).length = cs.length := by rw [gain_yes h]; exact fill_len _ _
theorem loss_len {n : Int} {cs : List Int} (h : vcB n cs = true) : (lossV n cs).length = cs.length := by rw [loss_yes h]; exact lossT_len _ _
theorem vc_nn {n : Int} {cs : List Int} (h : vcB n cs = true) : ∀ i, i < cs.length → 0 ≤ cs.getD i 0 := fun i hi => (allB_get (vc_iff.1 h).1 hi).1
theorem gain_fair {n : Int} {cs : List Int} (h : vcB n cs = true) : Fair cs (gainV n cs) n := by
  obtain ⟨_, _, a, b⟩ := vc_iff.1 h
  rw [gain_yes h]
  have := fill_fair (vc_nn h) n.toNat (by omega)
  rwa [show (n.toNat : Int) = n by omega] at this
theorem loss_fair {n : Int} {cs : List Int} (h : vcB n cs = true) : (lossV n cs).sum = n ∧ (∀ i, i < cs.length → 0 ≤ (lossV n cs).getD i 0 ∧ (lossV n cs).getD i 0 ≤ cs.getD i 0) ∧ ∀ i k, i < cs.length → k < cs.length → 0 < (lossV n cs).getD i 0 → cs.getD k 0 - (lossV n cs).getD k 0 ≤ cs.getD i 0 - (lossV n cs).getD i 0 + 1 := by
  obtain ⟨_, _, a, b⟩ := vc_iff.1 h
  rw [loss_yes h]
  have := lossT_fair (vc_nn h) (u := (cs.sum - n).toNat) (by omega)
  rwa [show cs.sum - ((cs.sum - n).toNat : Int) = n by omega] at this
theorem vc_rev {n : Int} {cs : List Int} : vcB n cs.reverse = vcB n cs := by unfold vcB; rw [revZ_all, List.length_reverse, revZ_sum]
theorem vc_turn {n : Int} {cs : List Int} (h : vcB n cs = true) : vcB (cs.sum - n) cs = true := by
  obtain ⟨a, b, c, d⟩ := vc_iff.1 h
  exact vc_iff.2 ⟨a, b, by omega, by omega⟩
/-- P81 -/
theorem loss_gain {n : Int} {cs : List Int} (h : vcB n cs = true) : lossV n cs = subZ cs (gainV (cs.sum - n) cs.reverse).reverse := by
  rw [loss_yes h, gain_yes (by rw [vc_rev]; exact vc_turn h)]; rfl
end Go.Proofs.Ytigapnbpgbfbhac
