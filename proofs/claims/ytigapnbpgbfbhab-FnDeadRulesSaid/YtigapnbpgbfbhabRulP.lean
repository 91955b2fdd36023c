/- Customs (pure): which ones are valid, the first one for a case, and those that are never first. No condition but those stated. -/
import Derived.Test.YtigapnbpgbfbhabRu
import Derived.Test.YtigapnbpgbfbhabMkZ
namespace Go.Proofs.Ytigapnbpgbfbhab
set_option linter.unusedVariables false
set_option linter.unusedSimpArgs false
/-- a valid custom -/
def rB (r : Ru) : Bool := (decide (0 ≤ r.1) && decide (r.1 ≤ r.2.1) && decide (r.2.1 ≤ 23)) && ((decide (0 ≤ r.2.2.1) && decide (r.2.2.1 ≤ r.2.2.2.1) && decide (r.2.2.2.1 ≤ 500)) && (decide (0 ≤ r.2.2.2.2) && decide (r.2.2.2.2 ≤ 99)))
theorem rB_iff (r : Ru) : rB r = true ↔ (0 ≤ r.1 ∧ r.1 ≤ r.2.1 ∧ r.2.1 ≤ 23) ∧ (0 ≤ r.2.2.1 ∧ r.2.2.1 ≤ r.2.2.2.1 ∧ r.2.2.2.1 ≤ 500) ∧ (0 ≤ r.2.2.2.2 ∧ r.2.2.2.2 ≤ 99) := by
  unfold rB; simp only [Bool.and_eq_true, decide_eq_true_eq]
  constructor
  · rintro ⟨⟨⟨a, b⟩, c⟩, ⟨⟨d, e⟩, f⟩, g, h⟩; exact ⟨⟨a, b, c⟩, ⟨d, e, f⟩, g, h⟩
  · rintro ⟨⟨a, b, c⟩, ⟨d, e, f⟩, g, h⟩; exact ⟨⟨⟨a, b⟩, c⟩, ⟨⟨d, e⟩, f⟩, g, h⟩
theorem rB_no {r : Ru} (h : ¬ ((0 ≤ r.1 ∧ r.1 ≤ r.2.1 ∧ r.2.1 ≤ 23) ∧ (0 ≤ r.2.2.1 ∧ r.2.2.1 ≤ r.2.2.2.1 ∧ r.2.2.2.1 ≤ 500) ∧ (0 ≤ r.2.2.2.2 ∧ r.2.2.2.2 ≤ 99))) : rB r = false := by
  cases e : rB r with
  | false => rfl
  | true => exact absurd ((rB_iff r).1 e) h
def vrB (rs : List Ru) : Bool := decide (rs.length ≤ 10) && (List.range rs.length).all fun k => rB (rs.getD k ru0)
theorem vr_is {rs : List Ru} (h : vrB rs = true) : rs.length ≤ 10 ∧ ∀ k, k < rs.length → rB (rs.getD k ru0) = true := by
  unfold vrB at h
  simp only [Bool.and_eq_true, decide_eq_true_eq, List.all_eq_true, List.mem_range] at h
  exact h
theorem vr_yes {rs : List Ru} (h1 : rs.length ≤ 10) (h2 : ∀ k, k < rs.length → rB (rs.getD k ru0) = true) : vrB rs = true := by
  unfold vrB
  simp only [Bool.and_eq_true, decide_eq_true_eq, List.all_eq_true, List.mem_range]
  exact ⟨h1, h2⟩
theorem vr_no1 {rs : List Ru} (h : 10 < rs.length) : vrB rs = false := by
  cases e : vrB rs with
  | false => rfl
  | true => have := (vr_is e).1; omega
theorem vr_no2 {rs : List Ru} {k : Nat} (hk : k < rs.length) (h : rB (rs.getD k ru0) = false) : vrB rs = false := by
  cases e : vrB rs with
  | false => rfl
  | true => have := (vr_is e).2 k hk; rw [h] at this; cases this
theorem vr_end {rs : List Ru} (h : ∀ k, k < rs.length → rB (rs.getD k ru0) = true) : vrB rs = decide ((rs.length : Int) ≤ 10) := by
  by_cases e : rs.length ≤ 10
  · rw [vr_yes e h, decide_eq_true (by omega)]
  · rw [vr_no1 (by omega), decide_eq_false (by omega)]
theorem vr_at {rs : List Ru} (h : vrB rs = true) {k : Nat} (hk : k < rs.length) : (0 ≤ (rs.getD k ru0).1 ∧ (rs.getD k ru0).1 ≤ (rs.getD k ru0).2.1 ∧ (rs.getD k ru0).2.1 ≤ 23) ∧ (0 ≤ (rs.getD k ru0).2.2.1 ∧ (rs.getD k ru0).2.2.1 ≤ (rs.getD k ru0).2.2.2.1 ∧ (rs.getD k ru0).2.2.2.1 ≤ 500) ∧ (0 ≤ (rs.getD k ru0).2.2.2.2 ∧ (rs.getD k ru0).2.2.2.2 ≤ 99) := (rB_iff _).1 ((vr_is h).2 k hk)
/-- a custom for a case -/
def fitB (r : Ru) (h u : Int) : Bool := (decide (r.1 ≤ h) && decide (h ≤ r.2.1)) && (decide (r.2.2.1 ≤ u) && decide (u ≤ r.2.2.2.1))
theorem fit_iff (r : Ru) (h u : Int) : fitB r h u = true ↔ (r.1 ≤ h ∧ h ≤ r.2.1) ∧ (r.2.2.1 ≤ u ∧ u ≤ r.2.2.2.1) := by
  unfold fitB; simp only [Bool.and_eq_true, decide_eq_true_eq]
/-- the first custom for a case -/
def firstGo (rs : List Ru) (h u : Int) : Nat → Nat → Int
  | 0, _ => -1
  | m + 1, i => if fitB (rs.getD i ru0) h u = true then (i : Int) else firstGo rs h u m (i + 1)
def frF (rs : List Ru) (h u : Int) : Int := firstGo rs h u rs.length 0
theorem first_at {rs : List Ru} {h u : Int} : ∀ (m x y : Nat), x ≤ y → y < x + m → (∀ j : Nat, x ≤ j → j < y → fitB (rs.getD j ru0) h u = false) → fitB (rs.getD y ru0) h u = true → firstGo rs h u m x = (y : Int) := by
  intro m
  induction m with
  | zero => intro x y a b; omega
  | succ m ih =>
    intro x y a b c d
    show (if fitB (rs.getD x ru0) h u = true then (x : Int) else firstGo rs h u m (x + 1)) = _
    by_cases e : x = y
    · subst e; rw [if_pos d]
    · rw [c x (Nat.le_refl _) (by omega)]
      exact ih (x + 1) y (by omega) (by omega) (fun j p q => c j (by omega) q) d
theorem first_none {rs : List Ru} {h u : Int} : ∀ (m x : Nat), (∀ j : Nat, x ≤ j → j < x + m → fitB (rs.getD j ru0) h u = false) → firstGo rs h u m x = -1 := by
  intro m
  induction m with
  | zero => intro x _; rfl
  | succ m ih =>
    intro x c
    show (if fitB (rs.getD x ru0) h u = true then (x : Int) else firstGo rs h u m (x + 1)) = _
    rw [c x (Nat.le_refl _) (by omega)]
    exact ih (x + 1) (fun j p q => c j (by omega) (by omega))
theorem fr_at {rs : List Ru} {h u : Int} {k : Nat} (hk : k < rs.length) (h1 : ∀ j, j < k → fitB (rs.getD j ru0) h u = false) (h2 : fitB (rs.getD k ru0) h u = true) : frF rs h u = (k : Int) :=
  first_at _ 0 k (Nat.zero_le _) (by omega) (fun j _ q => h1 j q) h2
theorem fr_none {rs : List Ru} {h u : Int} (h1 : ∀ j, j < rs.length → fitB (rs.getD j ru0) h u = false) : frF rs h u = -1 :=
  first_none _ 0 (fun j _ q => h1 j (by omega))
theorem fr_cases (rs : List Ru) (h u : Int) : (frF rs h u = -1 ∧ ∀ j, j < rs.length → fitB (rs.getD j ru0) h u = false) ∨ ∃ k : Nat, k < rs.length ∧ frF rs h u = (k : Int) ∧ fitB (rs.getD k ru0) h u = true ∧ ∀ j, j < k → fitB (rs.getD j ru0) h u = false := by
  by_cases e : ∃ k, k < rs.length ∧ fitB (rs.getD k ru0) h u = true
  · have hx : ∀ n : Nat, ∀ k, k < n → k < rs.length → fitB (rs.getD k ru0) h u = true → ∃ k, k < rs.length ∧ fitB (rs.getD k ru0) h u = true ∧ ∀ j, j < k → fitB (rs.getD j ru0) h u = false := by
      intro n
      induction n with
      | zero => intro k hk; omega
      | succ n ih =>
        intro k hk hl hf
        by_cases c : ∃ j, j < k ∧ fitB (rs.getD j ru0) h u = true
        · obtain ⟨j, hj, hjf⟩ := c
          exact ih j (by omega) (by omega) hjf
        · refine ⟨k, hl, hf, fun j hj => ?_⟩
          cases e : fitB (rs.getD j ru0) h u with
          | false => rfl
          | true => exact absurd ⟨j, hj, e⟩ c
    obtain ⟨k, hk, hf⟩ := e
    obtain ⟨k, hk, hf, hl⟩ := hx (k + 1) k (by omega) hk hf
    exact Or.inr ⟨k, hk, fr_at hk hl hf, hf, hl⟩
  · have hn : ∀ j, j < rs.length → fitB (rs.getD j ru0) h u = false := fun j hj => by
      cases c : fitB (rs.getD j ru0) h u with
      | false => rfl
      | true => exact absurd ⟨j, hj, c⟩ e
    exact Or.inl ⟨fr_none hn, hn⟩
theorem fr_is {rs : List Ru} {h u : Int} {k : Nat} (e : frF rs h u = (k : Int)) : k < rs.length ∧ fitB (rs.getD k ru0) h u = true ∧ ∀ j, j < k → fitB (rs.getD j ru0) h u = false := by
  rcases fr_cases rs h u with ⟨a, _⟩ | ⟨m, a, b, c, d⟩
  · rw [a] at e; omega
  · have : m = k := by omega
    subst this; exact ⟨a, c, d⟩
theorem fr_bd (rs : List Ru) (h u : Int) : -1 ≤ frF rs h u ∧ frF rs h u < (rs.length : Int) := by
  rcases fr_cases rs h u with ⟨a, _⟩ | ⟨m, a, b, c, d⟩
  · rw [a]; omega
  · rw [b]; omega
def fruV (rs : List Ru) (h u : Int) : Int := if vrB rs = true then frF rs h u else -1
theorem fruV_no {rs : List Ru} {h u : Int} (e : vrB rs = false) : fruV rs h u = -1 := by unfold fruV; rw [e]; rfl
theorem fruV_yes {rs : List Ru} {h u : Int} (e : vrB rs = true) : fruV rs h u = frF rs h u := by unfold fruV; rw [e]; rfl
def vdV (rs : List Ru) (h u : Int) : Int := if fruV rs h u < 0 then -1 else (rs.getD (fruV rs h u).toNat ru0).2.2.2.2
/-- whether a custom is the first one for some case -/
def everB (rs : List Ru) (i : Nat) : Bool := (List.range 24).any fun h => (List.range 501).any fun u => frF rs (h : Int) (u : Int) == (i : Int)
theorem ever_iff {rs : List Ru} (hv : vrB rs = true) {i : Nat} (hi : i < rs.length) : everB rs i = true ↔ ∃ h u : Int, frF rs h u = (i : Int) := by
  unfold everB
  simp only [List.any_eq_true, List.mem_range, beq_iff_eq]
  constructor
  · rintro ⟨h, _, u, _, e⟩; exact ⟨h, u, e⟩
  · rintro ⟨h, u, e⟩
    obtain ⟨_, f, _⟩ := fr_is e
    have f := (fit_iff _ _ _).1 f
    have b := vr_at hv hi
    refine ⟨h.toNat, by omega, u.toNat, by omega, ?_⟩
    rw [show ((h.toNat : Nat) : Int) = h from by omega, show ((u.toNat : Nat) : Int) = u from by omega]
    exact e
theorem ever_no {rs : List Ru} (hv : vrB rs = true) {i : Nat} (hi : i < rs.length) (h : ∀ h u : Int, frF rs h u ≠ (i : Int)) : everB rs i = false := by
  cases e : everB rs i with
  | false => rfl
  | true => obtain ⟨a, b, c⟩ := (ever_iff hv hi).1 e; exact absurd c (h a b)
/-- by all cases of its own -/
theorem ever_no1 {rs : List Ru} (hv : vrB rs = true) {i : Nat} (hi : i < rs.length) (h : ∀ h u : Int, (rs.getD i ru0).1 ≤ h → h ≤ (rs.getD i ru0).2.1 → (rs.getD i ru0).2.2.1 ≤ u → u ≤ (rs.getD i ru0).2.2.2.1 → frF rs h u ≠ (i : Int)) : everB rs i = false :=
  ever_no hv hi fun x u e => by
    have f := (fit_iff _ _ _).1 (fr_is e).2.1
    exact h x u f.1.1 f.1.2 f.2.1 f.2.2 e
/-- by the edges of all customs -/
theorem ever_edge {rs : List Ru} {i : Nat} (hi : i < rs.length) {h : Int} : ∀ (n : Nat) (u : Int), u - (rs.getD i ru0).2.2.1 = (n : Int) → frF rs h u = (i : Int) → ∃ j, j < rs.length ∧ (frF rs h (rs.getD j ru0).2.2.1 = (i : Int) ∨ frF rs h ((rs.getD j ru0).2.2.2.1 + 1) = (i : Int)) := by
  intro n
  induction n with
  | zero => intro u hu e; exact ⟨i, hi, Or.inl (by rw [show (rs.getD i ru0).2.2.1 = u from by omega]; exact e)⟩
  | succ n ih =>
    intro u hu e
    by_cases c : frF rs h (u - 1) = (i : Int)
    · exact ih (u - 1) (by omega) c
    · obtain ⟨_, f, l⟩ := fr_is e
      have f' := (fit_iff _ _ _).1 f
      have fi : fitB (rs.getD i ru0) h (u - 1) = true := (fit_iff _ _ _).2 ⟨f'.1, by omega, by omega⟩
      by_cases d : ∃ j, j < i ∧ fitB (rs.getD j ru0) h (u - 1) = true
      · obtain ⟨j, hj, hf⟩ := d
        have hf := (fit_iff _ _ _).1 hf
        have hn := l j hj
        have : (rs.getD j ru0).2.2.2.1 + 1 = u := by
          have : ¬ ((rs.getD j ru0).2.2.1 ≤ u ∧ u ≤ (rs.getD j ru0).2.2.2.1) := fun q => by
            rw [(fit_iff _ _ _).2 ⟨hf.1, q⟩] at hn; cases hn
          omega
        exact ⟨j, by omega, Or.inr (by rw [this]; exact e)⟩
      · exact absurd (fr_at hi (fun j hj => by
          cases q : fitB (rs.getD j ru0) h (u - 1) with
          | false => rfl
          | true => exact absurd ⟨j, hj, q⟩ d) fi) c
theorem ever_no2 {rs : List Ru} (hv : vrB rs = true) {i : Nat} (hi : i < rs.length) (h : ∀ h : Int, (rs.getD i ru0).1 ≤ h → h ≤ (rs.getD i ru0).2.1 → ∀ j, j < rs.length → frF rs h (rs.getD j ru0).2.2.1 ≠ (i : Int) ∧ frF rs h ((rs.getD j ru0).2.2.2.1 + 1) ≠ (i : Int)) : everB rs i = false :=
  ever_no hv hi fun x u e => by
    have f := (fit_iff _ _ _).1 (fr_is e).2.1
    obtain ⟨j, hj, c⟩ := ever_edge hi (u - (rs.getD i ru0).2.2.1).toNat u (by omega) e
    have := h x f.1.1 f.1.2 j hj
    rcases c with c | c
    · exact this.1 c
    · exact this.2 c
def deadTo (rs : List Ru) : Nat → List Int
  | 0 => []
  | k + 1 => if everB rs k = true then deadTo rs k else deadTo rs k ++ [(k : Int)]
theorem deadTo_yes {rs : List Ru} {k : Nat} (h : everB rs k = false) : deadTo rs (k + 1) = deadTo rs k ++ [(k : Int)] := by
  show (if everB rs k = true then deadTo rs k else deadTo rs k ++ [(k : Int)]) = _; rw [h]; rfl
theorem deadTo_no {rs : List Ru} {k : Nat} (h : everB rs k = true) : deadTo rs (k + 1) = deadTo rs k := if_pos h
theorem deadTo_len (rs : List Ru) : ∀ k, (deadTo rs k).length ≤ k
  | 0 => Nat.le_refl _
  | k + 1 => by
    have := deadTo_len rs k
    cases h : everB rs k with
    | false => rw [deadTo_yes h, List.length_append]; show _ + 1 ≤ _; omega
    | true => rw [deadTo_no h]; omega
theorem deadTo_mem (rs : List Ru) : ∀ k, ∀ z, z ∈ deadTo rs k ↔ ∃ j : Nat, z = (j : Int) ∧ j < k ∧ everB rs j = false := by
  intro k
  induction k with
  | zero => intro z; constructor; (intro h; cases h); (rintro ⟨j, _, h, _⟩; omega)
  | succ k ih =>
    intro z
    cases h : everB rs k with
    | false =>
      rw [deadTo_yes h, List.mem_append, ih z, List.mem_singleton]
      constructor
      · rintro (⟨j, a, b, c⟩ | rfl)
        · exact ⟨j, a, by omega, c⟩
        · exact ⟨k, rfl, by omega, h⟩
      · rintro ⟨j, a, b, c⟩
        by_cases e : j = k
        · subst e; exact Or.inr a
        · exact Or.inl ⟨j, a, by omega, c⟩
    | true =>
      rw [deadTo_no h, ih z]
      constructor
      · rintro ⟨j, a, b, c⟩; exact ⟨j, a, by omega, c⟩
      · rintro ⟨j, a, b, c⟩
        refine ⟨j, a, ?_, c⟩
        have : j ≠ k := fun e => by rw [e, h] at c; cases c
        omega
def deadV (rs : List Ru) : List Int := if vrB rs = true then deadTo rs rs.length else []
theorem deadV_no {rs : List Ru} (e : vrB rs = false) : deadV rs = [] := by unfold deadV; rw [e]; rfl
theorem deadV_yes {rs : List Ru} (e : vrB rs = true) : deadV rs = deadTo rs rs.length := by unfold deadV; rw [e]; rfl
end Go.Proofs.Ytigapnbpgbfbhab
