/- Holdings as they lie in memory (owner, upper and lower number of the share), and when they are a valid ledger. No condition. -/
import Derived.Test.YtdlbjmhjaljlfabHeir
namespace Go.Proofs.Ytdlbjmhjaljlfab

abbrev Hd := Int × Int × Int
abbrev hd0 : Hd := (0, 0, 0)
def ledOf (hs : List Hd) : Led := hs.map fun h => (h.1, Rat.divInt h.2.1 h.2.2)
def rawH (h : Int × Rat) : Hd := (h.1, h.2.num, (h.2.den : Int))
def rawL (L : Led) : List Hd := L.map rawH
/-- the numbers of holdings, one after the other -/
def flatH : List Hd → List Int
  | [] => []
  | h :: t => h.1 :: h.2.1 :: h.2.2 :: flatH t
theorem flat_len : ∀ hs : List Hd, (flatH hs).length = hs.length * 3 := by
  intro hs
  induction hs with
  | nil => rfl
  | cons h t ih => show (flatH t).length + 1 + 1 + 1 = (t.length + 1) * 3; rw [ih]; omega
theorem flat_append : ∀ a b : List Hd, flatH (a ++ b) = flatH a ++ flatH b := by
  intro a b
  induction a with
  | nil => rfl
  | cons h t ih => show h.1 :: h.2.1 :: h.2.2 :: flatH (t ++ b) = _; rw [ih]; rfl
theorem flat_get : ∀ (hs : List Hd) (k : Nat), k < hs.length → (flatH hs).getD (k * 3) 0 = (hs.getD k hd0).1 ∧ (flatH hs).getD (k * 3 + 1) 0 = (hs.getD k hd0).2.1 ∧ (flatH hs).getD (k * 3 + 2) 0 = (hs.getD k hd0).2.2 := by
  intro hs
  induction hs with
  | nil => intro k h; simp at h
  | cons h t ih =>
    intro k hk
    cases k with
    | zero => exact ⟨rfl, rfl, rfl⟩
    | succ k =>
      have := ih k (by simpa using hk)
      rw [show (k + 1) * 3 = k * 3 + 1 + 1 + 1 from by omega]
      exact this
theorem flat_take (hs : List Hd) (k : Nat) : (flatH hs).take (k * 3) = flatH (hs.take k) := by
  induction hs generalizing k with
  | nil => simp [flatH]
  | cons h t ih =>
    cases k with
    | zero => rfl
    | succ k =>
      rw [show (k + 1) * 3 = k * 3 + 1 + 1 + 1 from by omega]
      show h.1 :: h.2.1 :: h.2.2 :: (flatH t).take (k * 3) = _
      rw [ih]; rfl
theorem flat_drop (hs : List Hd) (k : Nat) : (flatH hs).drop (k * 3) = flatH (hs.drop k) := by
  induction hs generalizing k with
  | nil => simp [flatH]
  | cons h t ih =>
    cases k with
    | zero => rfl
    | succ k =>
      rw [show (k + 1) * 3 = k * 3 + 1 + 1 + 1 from by omega]
      show (flatH t).drop (k * 3) = _
      rw [ih]; rfl
theorem getD_lt {α : Type} (l : List α) {k : Nat} (h : k < l.length) (d : α) : l.getD k d = l[k] := by
  rw [List.getD_eq_getElem?_getD, List.getElem?_eq_getElem h]; rfl
theorem take_snocD {α : Type} (l : List α) {k : Nat} (h : k < l.length) (d : α) : l.take (k + 1) = l.take k ++ [l.getD k d] := by
  rw [List.take_succ_eq_append_getElem h, getD_lt l h]

theorem led_len (hs : List Hd) : (ledOf hs).length = hs.length := by unfold ledOf; simp
theorem led_raw (L : Led) : ledOf (rawL L) = L := by
  unfold ledOf rawL
  rw [List.map_map]
  conv => rhs; rw [← List.map_id L]
  refine List.map_congr_left fun h _ => ?_
  show (h.1, Rat.divInt h.2.num h.2.den) = h
  rw [q_mk]
theorem raw_len (L : Led) : (rawL L).length = L.length := by unfold rawL; simp
theorem raw_get (L : Led) {k : Nat} (h : k < L.length) : (rawL L).getD k hd0 = rawH (L.getD k (0, 0)) := by
  rw [getD_lt _ (by rw [raw_len]; exact h), getD_lt _ h]; unfold rawL; simp
theorem led_get (hs : List Hd) {k : Nat} (h : k < hs.length) : (ledOf hs).getD k (0, 0) = ((hs.getD k hd0).1, Rat.divInt (hs.getD k hd0).2.1 (hs.getD k hd0).2.2) := by
  rw [getD_lt _ (by rw [led_len]; exact h), getD_lt _ h]; unfold ledOf; simp
theorem raw_append (a b : Led) : rawL (a ++ b) = rawL a ++ rawL b := by unfold rawL; simp
theorem raw_take (a : Led) (k : Nat) : rawL (a.take k) = (rawL a).take k := by unfold rawL; simp
theorem raw_drop (a : Led) (k : Nat) : rawL (a.drop k) = (rawL a).drop k := by unfold rawL; simp

def prevO (hs : List Hd) (k : Nat) : Int := if k = 0 then 0 else (hs.getD (k - 1) hd0).1
def okA (hs : List Hd) (k : Nat) : Bool := decide (prevO hs k < (hs.getD k hd0).1) && decide (1 ≤ (hs.getD k hd0).1) && decide ((hs.getD k hd0).1 ≤ 999)
def ascB (hs : List Hd) : Bool := (List.range hs.length).all (okA hs)
def okF (hs : List Hd) (k : Nat) : Bool := Wsh.vfB (hs.getD k hd0).2.1 (hs.getD k hd0).2.2 && decide ((hs.getD k hd0).2.1 ≠ 0)
/-- the sum of the first shares -/
def sumQ (hs : List Hd) (k : Nat) : Rat := totL ((ledOf hs).take k)
def okS (hs : List Hd) (k : Nat) : Bool := okF hs k && frB (sumQ hs (k + 1))
def allS (hs : List Hd) : Bool := (List.range hs.length).all (okS hs)
def allF (hs : List Hd) : Bool := (List.range hs.length).all (okF hs)
/-- a valid ledger -/
def vlR (hs : List Hd) : Bool := decide (hs.length ≤ 12) && ascB hs && allS hs && decide (sumQ hs hs.length = 1)
theorem rng_all (n : Nat) (f : Nat → Bool) : (List.range n).all f = true ↔ ∀ j, j < n → f j = true := by
  rw [List.all_eq_true]; simp
theorem rng_no {n k : Nat} {f : Nat → Bool} (h : k < n) (hk : f k = false) : (List.range n).all f = false := by
  rw [Bool.eq_false_iff]; intro c; rw [rng_all] at c; rw [c k h] at hk; cases hk
theorem rng_yes {n : Nat} {f : Nat → Bool} (h : ∀ j, j < n → f j = true) : (List.range n).all f = true := (rng_all n f).2 h
theorem rng_more {k : Nat} {f : Nat → Bool} (h : ∀ j, j < k → f j = true) (hk : f k = true) : ∀ j, j < k + 1 → f j = true := fun j hj => by
  by_cases e : j = k
  · subst e; exact hk
  · exact h j (by omega)

theorem okF_is {hs : List Hd} {k : Nat} (h : okF hs k = true) : Wsh.vfB (hs.getD k hd0).2.1 (hs.getD k hd0).2.2 = true ∧ (hs.getD k hd0).2.1 ≠ 0 := by
  unfold okF at h; simpa using h
theorem okF_no1 {hs : List Hd} {k : Nat} (h : Wsh.vfB (hs.getD k hd0).2.1 (hs.getD k hd0).2.2 = false) : okF hs k = false := by unfold okF; rw [h]; rfl
theorem okF_no2 {hs : List Hd} {k : Nat} (h : (hs.getD k hd0).2.1 = 0) : okF hs k = false := by unfold okF; rw [h]; simp
theorem okF_yes {hs : List Hd} {k : Nat} (h : Wsh.vfB (hs.getD k hd0).2.1 (hs.getD k hd0).2.2 = true) (h2 : (hs.getD k hd0).2.1 ≠ 0) : okF hs k = true := by unfold okF; rw [h]; simpa using h2
theorem okS_no {hs : List Hd} {k : Nat} (h : okF hs k = false) : okS hs k = false := by unfold okS; rw [h]; rfl
theorem okS_no2 {hs : List Hd} {k : Nat} (h : frB (sumQ hs (k + 1)) = false) : okS hs k = false := by unfold okS; rw [h]; simp
theorem okS_yes {hs : List Hd} {k : Nat} (h : okF hs k = true) (h2 : frB (sumQ hs (k + 1)) = true) : okS hs k = true := by unfold okS; rw [h, h2]; rfl
theorem okS_is {hs : List Hd} {k : Nat} (h : okS hs k = true) : okF hs k = true ∧ frB (sumQ hs (k + 1)) = true := by unfold okS at h; simpa using h
theorem sum_zero (hs : List Hd) : sumQ hs 0 = 0 := rfl
theorem sum_succ {hs : List Hd} {k : Nat} (h : k < hs.length) : sumQ hs (k + 1) = sumQ hs k + Rat.divInt (hs.getD k hd0).2.1 (hs.getD k hd0).2.2 := by
  unfold sumQ
  rw [take_snocD (ledOf hs) (by rw [led_len]; exact h) (0, 0), tot_append, led_get hs h]
  show _ + (Rat.divInt _ _ + 0) = _
  grind
/-- a sum as the program makes it -/
theorem sum_red {hs : List Hd} {k : Nat} (h : k < hs.length) (hv : Wsh.vfB (hs.getD k hd0).2.1 (hs.getD k hd0).2.2 = true) :
    Wsh.redB ((sumQ hs k).num * (hs.getD k hd0).2.2 + (hs.getD k hd0).2.1 * (sumQ hs k).den) ((sumQ hs k).den * (hs.getD k hd0).2.2) = frB (sumQ hs (k + 1)) ∧
    Wsh.rn ((sumQ hs k).num * (hs.getD k hd0).2.2 + (hs.getD k hd0).2.1 * (sumQ hs k).den) ((sumQ hs k).den * (hs.getD k hd0).2.2) = (sumQ hs (k + 1)).num ∧
    Wsh.rd ((sumQ hs k).num * (hs.getD k hd0).2.2 + (hs.getD k hd0).2.1 * (sumQ hs k).den) ((sumQ hs k).den * (hs.getD k hd0).2.2) = ((sumQ hs (k + 1)).den : Int) := by
  obtain ⟨a, b, _⟩ := vf_q hv
  have := add_red (sumQ hs k) (Rat.divInt (hs.getD k hd0).2.1 (hs.getD k hd0).2.2)
  rw [a, b, ← sum_succ h] at this
  exact this
theorem one_iff {q : Rat} : q = 1 ↔ q.num = (q.den : Int) := by
  constructor
  · rintro rfl; rfl
  · intro h
    have := q_mk q
    rw [h, Rat.divInt_self' (by have := den_pos q; omega)] at this
    exact this.symm
theorem asc_is {hs : List Hd} (h : ascB hs = true) : Asc (ledOf hs) ∧ ∀ x ∈ ledOf hs, 1 ≤ x.1 ∧ x.1 ≤ 999 := by
  unfold ascB at h
  rw [rng_all] at h
  have h1 : ∀ k, k < hs.length → prevO hs k < (hs.getD k hd0).1 ∧ 1 ≤ (hs.getD k hd0).1 ∧ (hs.getD k hd0).1 ≤ 999 := fun k hk => by
    have := h k hk; unfold okA at this; simp only [Bool.and_eq_true, decide_eq_true_eq] at this; exact ⟨this.1.1, this.1.2, this.2⟩
  have mono : ∀ n i, i + n + 1 < hs.length → (hs.getD i hd0).1 < (hs.getD (i + n + 1) hd0).1 := by
    intro n
    induction n with
    | zero =>
      intro i hi
      have := (h1 (i + 1) hi).1
      unfold prevO at this
      rw [if_neg (by omega)] at this
      exact this
    | succ n ih =>
      intro i hi
      have a := ih i (by omega)
      have := (h1 (i + (n + 1) + 1) hi).1
      unfold prevO at this
      rw [if_neg (by omega), show i + (n + 1) + 1 - 1 = i + n + 1 from by omega] at this
      omega
  refine ⟨?_, ?_⟩
  · unfold Asc
    rw [List.pairwise_iff_getElem]
    intro i j hi hj hij
    rw [led_len] at hi hj
    have a := mono (j - i - 1) i (by omega)
    rw [show i + (j - i - 1) + 1 = j from by omega] at a
    rw [← getD_lt (ledOf hs) (by rw [led_len]; exact hi) (0, 0), ← getD_lt (ledOf hs) (by rw [led_len]; exact hj) (0, 0), led_get hs hi, led_get hs hj]
    exact a
  · intro x hx
    obtain ⟨i, hi, rfl⟩ := List.getElem_of_mem hx
    rw [← getD_lt (ledOf hs) hi (0, 0), led_get hs (by rw [led_len] at hi; exact hi)]
    exact (h1 i (by rw [led_len] at hi; exact hi)).2
theorem frac_is {hs : List Hd} (h : allF hs = true) : rawL (ledOf hs) = hs ∧ Pos (ledOf hs) ∧ ∀ x ∈ ledOf hs, frB x.2 = true := by
  unfold allF at h
  rw [rng_all] at h
  have h1 : ∀ x ∈ hs, Wsh.vfB x.2.1 x.2.2 = true ∧ x.2.1 ≠ 0 := fun x hx => by
    obtain ⟨i, hi, rfl⟩ := List.getElem_of_mem hx
    have := okF_is (h i hi)
    rwa [getD_lt _ hi] at this
  refine ⟨?_, ?_, ?_⟩
  · unfold rawL ledOf
    rw [List.map_map]
    conv => rhs; rw [← List.map_id hs]
    refine List.map_congr_left fun x hx => ?_
    obtain ⟨a, b, _⟩ := vf_q (h1 x hx).1
    show (x.1, (Rat.divInt x.2.1 x.2.2).num, ((Rat.divInt x.2.1 x.2.2).den : Int)) = x
    rw [a, b]
  · intro x hx
    unfold ledOf at hx
    obtain ⟨y, hy, rfl⟩ := List.mem_map.1 hx
    obtain ⟨a, b, c⟩ := vf_q (h1 y hy).1
    have := frB_nonneg c
    have hn : Rat.divInt y.2.1 y.2.2 ≠ 0 := fun e => (h1 y hy).2 (by rw [← a]; exact (num_zero _).2 e)
    show 0 < Rat.divInt y.2.1 y.2.2
    grind
  · intro x hx
    unfold ledOf at hx
    obtain ⟨y, hy, rfl⟩ := List.mem_map.1 hx
    exact (vf_q (h1 y hy).1).2.2
theorem all_frac {hs : List Hd} (h : allS hs = true) : allF hs = true := by
  unfold allS at h; unfold allF; rw [rng_all] at h ⊢; exact fun j hj => (okS_is (h j hj)).1
theorem vlR_is {hs : List Hd} (h : vlR hs = true) : rawL (ledOf hs) = hs ∧ VL (ledOf hs) := by
  unfold vlR at h
  simp only [Bool.and_eq_true, decide_eq_true_eq] at h
  obtain ⟨⟨⟨h1, h2⟩, h3⟩, h4⟩ := h
  obtain ⟨f1, f2, f3⟩ := frac_is (all_frac h3)
  obtain ⟨a1, a2⟩ := asc_is h2
  refine ⟨f1, ⟨by rw [led_len]; exact h1, a2, f3, f2, a1, fun k hk => ?_, ?_⟩⟩
  · cases k with
    | zero => exact frB_zero
    | succ k =>
      unfold allS at h3; rw [rng_all] at h3
      rw [led_len] at hk
      exact (okS_is (h3 k hk)).2
  · have := h4
    unfold sumQ at this
    rwa [List.take_of_length_le (by rw [led_len]; exact Nat.le_refl _)] at this
theorem vlR_raw {L : Led} (h : VL L) : vlR (rawL L) = true := by
  have get : ∀ k, k < L.length → (rawL L).getD k hd0 = rawH L[k]! := fun k hk => by
    rw [raw_get L hk, getD_lt _ hk, List.getElem!_eq_getElem?_getD, List.getElem?_eq_getElem hk]; rfl
  unfold vlR
  simp only [Bool.and_eq_true, decide_eq_true_eq]
  refine ⟨⟨⟨by rw [raw_len]; exact h.len, ?_⟩, ?_⟩, ?_⟩
  · refine rng_yes fun k hk => ?_
    rw [raw_len] at hk
    unfold okA
    simp only [Bool.and_eq_true, decide_eq_true_eq]
    have o := h.own _ (List.getElem_mem hk)
    rw [raw_get L hk, getD_lt _ hk]
    refine ⟨⟨?_, o.1⟩, o.2⟩
    unfold prevO
    by_cases e : k = 0
    · rw [if_pos e]; exact Int.lt_of_lt_of_le (by decide) o.1
    · rw [if_neg e, raw_get L (by omega), getD_lt _ (by omega)]
      exact (List.pairwise_iff_getElem.1 h.asc) (k - 1) k (by omega) hk (by omega)
  · refine rng_yes fun k hk => ?_
    rw [raw_len] at hk
    refine okS_yes (okF_yes ?_ ?_) ?_
    · rw [raw_get L hk, getD_lt _ hk]; exact q_vf (h.fr _ (List.getElem_mem hk))
    · rw [raw_get L hk, getD_lt _ hk]
      have := h.pos _ (List.getElem_mem hk)
      intro c
      rw [(num_zero _).1 c] at this
      exact absurd this (by decide)
    · unfold sumQ; rw [led_raw]; exact h.sums _ (by omega)
  · unfold sumQ; rw [led_raw, raw_len, List.take_of_length_le (Nat.le_refl _)]; exact h.one
theorem vlR_vl (L : Led) : vlR (rawL L) = vlB L := by
  rw [Bool.eq_iff_iff, vl_iff]
  refine ⟨fun h => ?_, vlR_raw⟩
  have := (vlR_is h).2
  rwa [led_raw] at this
/-- the share of an owner as it lies in memory -/
def shR : List Hd → Int → Int × Int
  | [], _ => (0, 1)
  | h :: t, o => if h.1 = o then h.2 else shR t o
theorem shR_raw (L : Led) (o : Int) : shR (rawL L) o = ((shareL L o).num, ((shareL L o).den : Int)) := by
  induction L with
  | nil => rfl
  | cons h t ih =>
    show (if h.1 = o then (h.2.num, (h.2.den : Int)) else shR (rawL t) o) = _
    show _ = ((if h.1 = o then h.2 else shareL t o).num, ((if h.1 = o then h.2 else shareL t o).den : Int))
    by_cases e : h.1 = o
    · rw [if_pos e, if_pos e]
    · rw [if_neg e, if_neg e]; exact ih
theorem shR_at {hs : List Hd} {o : Int} {k : Nat} (hk : k < hs.length) (h : ∀ j, j < k → (hs.getD j hd0).1 ≠ o) (he : (hs.getD k hd0).1 = o) : shR hs o = (hs.getD k hd0).2 := by
  induction hs generalizing k with
  | nil => simp at hk
  | cons x t ih =>
    show (if x.1 = o then x.2 else shR t o) = _
    cases k with
    | zero => have he : x.1 = o := he
              rw [if_pos he]; rfl
    | succ k =>
      have h0 : x.1 ≠ o := h 0 (by omega)
      rw [if_neg h0]
      exact ih (by simpa using hk) (fun j hj => h (j + 1) (by omega)) he
theorem shR_none {hs : List Hd} {o : Int} (h : ∀ j, j < hs.length → (hs.getD j hd0).1 ≠ o) : shR hs o = (0, 1) := by
  induction hs with
  | nil => rfl
  | cons x t ih =>
    show (if x.1 = o then x.2 else shR t o) = _
    have h0 : x.1 ≠ o := h 0 (by simp)
    rw [if_neg h0]
    exact ih (fun j hj => h (j + 1) (by simpa using hj))
end Go.Proofs.Ytdlbjmhjaljlfab
