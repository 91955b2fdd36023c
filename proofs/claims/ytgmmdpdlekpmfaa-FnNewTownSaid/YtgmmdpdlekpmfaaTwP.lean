/- Accounts and towns, and how a town lies in memory. No condition. -/
import Derived.Test.YtgmmdpdlekpmfaaGrB
import Derived.Test.YtgmmdpdlekpmfaaGrA
import Derived.Test.YtgmmdpdlekpmfaaTurnP
import Derived.Test.YtgmmdpdlekpmfaaNodP
import Derived.Test.YtgmmdpdlekpmfaaBasP
namespace Go.Proofs.Ytgmmdpdlekpmfaa
open Go.RowKit
set_option linter.unusedSimpArgs false
set_option linter.unusedVariables false
/-- the account k may stand where it stands -/
def okAc (ac : List Ac) (k : Nat) : Bool := decide (1 ≤ (ac.getD k ac0).1) && decide ((ac.getD k ac0).1 ≤ 999) && decide (1 ≤ (ac.getD k ac0).2) && decide ((ac.getD k ac0).2 ≤ 1000000) && (decide (k = 0) || decide ((ac.getD (k - 1) ac0).1 < (ac.getD k ac0).1))
def acB (ac : List Ac) : Bool := (List.range ac.length).all (okAc ac)
theorem okAc_iff (ac : List Ac) (k : Nat) : okAc ac k = true ↔ 1 ≤ (ac.getD k ac0).1 ∧ (ac.getD k ac0).1 ≤ 999 ∧ 1 ≤ (ac.getD k ac0).2 ∧ (ac.getD k ac0).2 ≤ 1000000 ∧ (k = 0 ∨ (ac.getD (k - 1) ac0).1 < (ac.getD k ac0).1) := by
  unfold okAc; simp only [Bool.and_eq_true, Bool.or_eq_true, decide_eq_true_eq, and_assoc]
theorem okAc_no {ac : List Ac} {k : Nat} (h : ¬ (1 ≤ (ac.getD k ac0).1 ∧ (ac.getD k ac0).1 ≤ 999 ∧ 1 ≤ (ac.getD k ac0).2 ∧ (ac.getD k ac0).2 ≤ 1000000 ∧ (k = 0 ∨ (ac.getD (k - 1) ac0).1 < (ac.getD k ac0).1))) : okAc ac k = false := by
  cases e : okAc ac k with
  | false => rfl
  | true => exact absurd ((okAc_iff ac k).1 e) h
theorem acB_at {ac : List Ac} (h : acB ac = true) {k : Nat} (hk : k < ac.length) : okAc ac k = true := (rng_all _ _).1 h k hk
/-- the owner ahead of the account k -/
def lastA (ac : List Ac) : Nat → Int
  | 0 => 0
  | k + 1 => (ac.getD k ac0).1
theorem okAc_last (ac : List Ac) (k : Nat) : okAc ac k = true ↔ lastA ac k < (ac.getD k ac0).1 ∧ 1 ≤ (ac.getD k ac0).1 ∧ (ac.getD k ac0).1 ≤ 999 ∧ 1 ≤ (ac.getD k ac0).2 ∧ (ac.getD k ac0).2 ≤ 1000000 := by
  rw [okAc_iff]
  cases k with
  | zero =>
    show _ ↔ (0 : Int) < _ ∧ _
    constructor
    · rintro ⟨a, b, c, d, _⟩; exact ⟨by omega, a, b, c, d⟩
    · rintro ⟨_, a, b, c, d⟩; exact ⟨a, b, c, d, .inl rfl⟩
  | succ k =>
    show _ ↔ (ac.getD k ac0).1 < _ ∧ _
    constructor
    · rintro ⟨a, b, c, d, e⟩
      rcases e with e | e
      · omega
      · exact ⟨e, a, b, c, d⟩
    · rintro ⟨e, a, b, c, d⟩; exact ⟨a, b, c, d, .inr e⟩
theorem acB_no {ac : List Ac} {k : Nat} (hk : k < ac.length) (h : ¬ (lastA ac k < (ac.getD k ac0).1 ∧ 1 ≤ (ac.getD k ac0).1 ∧ (ac.getD k ac0).1 ≤ 999 ∧ 1 ≤ (ac.getD k ac0).2 ∧ (ac.getD k ac0).2 ≤ 1000000)) : acB ac = false := by
  refine rng_no hk ?_
  cases e : okAc ac k with
  | false => rfl
  | true => exact absurd ((okAc_last ac k).1 e) h
/-- all units of accounts -/
def acS (ac : List Ac) : Nat → Int
  | 0 => 0
  | k + 1 => acS ac k + (ac.getD k ac0).2
theorem acS_bd {ac : List Ac} (h : acB ac = true) : ∀ k, k ≤ ac.length → 0 ≤ acS ac k ∧ acS ac k ≤ 1000000 * (k : Int) := by
  intro k
  induction k with
  | zero => intro _; exact ⟨Int.le_refl _, by show (0 : Int) ≤ 1000000 * ((0 : Nat) : Int); omega⟩
  | succ k ih =>
    intro hk
    have a := ih (by omega)
    have b := (okAc_iff ac k).1 (acB_at h (k := k) (by omega))
    show 0 ≤ acS ac k + _ ∧ acS ac k + _ ≤ _
    omega
/-- a town -/
structure Tw where
  hs : List Hd
  ts : List Tn
  ns : List Nd
  r : Int
  hd : Int
  ac : List Ac
  rt : Int
  tm : Int
  ls : Int
  cm : Int
def Tw.zero : Tw := ⟨[], [], [], 0, 0, [], 0, 0, 0, 0⟩
def inB3 (n l h : Int) : Bool := decide (l ≤ n) && decide (n ≤ h)
/-- a valid town -/
def twB (t : Tw) : Bool := vlR t.hs && (vtB t.ts && (vnB t.ns && (vbB t.r t.hd && (acB t.ac && (inB3 t.rt 0 500 && (inB3 t.tm 0 5000 && (inB3 t.ls 0 1000000 && (inB3 t.cm 0 1000000 && decide (acS t.ac t.ac.length + t.hd + t.ls = t.cm)))))))))
/-- where the lists of a town lie -/
structure TA where
  a1 : Option Addr
  c1 : Nat
  a2 : Option Addr
  c2 : Nat
  a3 : Option Addr
  c3 : Nat
  a4 : Option Addr
  c4 : Nat
def TA.zero : TA := ⟨none, 0, none, 0, none, 0, none, 0⟩
def twV (p : TA) (t : Tw) : Value := .agg #[.slice p.a1 t.hs.length p.c1, .slice p.a2 t.ts.length p.c2, .slice p.a3 t.ns.length p.c3, .int .i64 t.r, .int .i64 t.hd, .slice p.a4 t.ac.length p.c4, .int .i64 t.rt, .int .i64 t.tm, .int .i64 t.ls, .int .i64 t.cm]
theorem town_cells {w : World} {g : Nat} {t : TypeId} {v0 v1 v2 v3 v4 v5 v6 v7 v8 v9 : Value} (h : Blk w g t #[v0, v1, v2, v3, v4, v5, v6, v7, v8, v9]) : w.cell? ⟨g, 0, none⟩ = some v0 ∧ w.cell? ⟨g, 1, none⟩ = some v1 ∧ w.cell? ⟨g, 2, none⟩ = some v2 ∧ w.cell? ⟨g, 3, none⟩ = some v3 ∧ w.cell? ⟨g, 4, none⟩ = some v4 ∧ w.cell? ⟨g, 5, none⟩ = some v5 ∧ w.cell? ⟨g, 6, none⟩ = some v6 ∧ w.cell? ⟨g, 7, none⟩ = some v7 ∧ w.cell? ⟨g, 8, none⟩ = some v8 ∧ w.cell? ⟨g, 9, none⟩ = some v9 := ⟨h.cell 0, h.cell 1, h.cell 2, h.cell 3, h.cell 4, h.cell 5, h.cell 6, h.cell 7, h.cell 8, h.cell 9⟩
structure IsTw (w : World) (p : TA) (t : Tw) : Prop where
  h1 : IsHs w p.a1 t.hs
  h2 : IsTn w p.a2 t.ts
  h3 : IsNd w p.a3 t.ns
  h4 : IsAc w p.a4 t.ac
  n1 : t.hs.length ≤ 1048576
  n2 : t.ts.length ≤ 1048576
  n3 : t.ns.length ≤ 1048576
  n4 : t.ac.length ≤ 1048576
  k1 : t.hs.length ≤ p.c1
  k2 : t.ts.length ≤ p.c2
  k3 : t.ns.length ≤ p.c3
  k4 : t.ac.length ≤ p.c4
theorem tw_below {w w' : World} {p : TA} {t : Tw} (h : IsTw w p t) (hB : Below w.heap.size w w') : IsTw w' p t :=
  ⟨hs_below h.h1 hB, tn_below h.h2 hB, nd_below h.h3 hB, ac_below h.h4 hB, h.n1, h.n2, h.n3, h.n4, h.k1, h.k2, h.k3, h.k4⟩
theorem tw_zero (w : World) : IsTw w TA.zero Tw.zero := ⟨.inl rfl, .inl rfl, .inl rfl, .inl rfl, by decide, by decide, by decide, by decide, by decide, by decide, by decide, by decide⟩
end Go.Proofs.Ytgmmdpdlekpmfaa
