/- Trades in circles: what is given is known by what it must be; nobody loses, no two or three would rather trade among themselves, nobody gains by false wishes. No condition but those stated. -/
import Derived.Test.YtdlbjmhjaljlfabPlain
namespace Go.Proofs.Ytdlbjmhjaljlfab

/-- a map of n places into themselves that meets no place twice meets each -/
theorem inj_surj : ∀ (n : Nat) (f : Nat → Nat), (∀ i, i < n → f i < n) → (∀ i j, i < n → j < n → f i = f j → i = j) → ∀ y, y < n → ∃ x, x < n ∧ f x = y := by
  intro n
  induction n with
  | zero => intro f _ _ y hy; omega
  | succ n ih =>
    intro f hf hi y hy
    have hz := hf n (by omega)
    have key := ih (fun i => if f i = n then f n else f i) (fun i hin => by
      show (if f i = n then f n else f i) < n
      by_cases e : f i = n
      · rw [if_pos e]
        have : f n ≠ n := fun c => by have := hi i n (by omega) (by omega) (by rw [e, c]); omega
        omega
      · rw [if_neg e]; have := hf i (by omega); omega) (fun i j hin hjn h => by
      have h' : (if f i = n then f n else f i) = (if f j = n then f n else f j) := h
      by_cases e1 : f i = n
      · by_cases e2 : f j = n
        · exact hi i j (by omega) (by omega) (by rw [e1, e2])
        · rw [if_pos e1, if_neg e2] at h'
          have := hi n j (by omega) (by omega) h'; omega
      · by_cases e2 : f j = n
        · rw [if_neg e1, if_pos e2] at h'
          have := hi i n (by omega) (by omega) h'; omega
        · rw [if_neg e1, if_neg e2] at h'
          exact hi i j (by omega) (by omega) h')
    by_cases ez : y = f n
    · exact ⟨n, by omega, ez.symm⟩
    · by_cases en : y = n
      · obtain ⟨x, hx, hxe⟩ := key (f n) (by omega)
        have hxe' : (if f x = n then f n else f x) = f n := hxe
        by_cases e : f x = n
        · exact ⟨x, by omega, by rw [e, en]⟩
        · rw [if_neg e] at hxe'
          have := hi x n (by omega) (by omega) hxe'; omega
      · obtain ⟨x, hx, hxe⟩ := key y (by omega)
        have hxe' : (if f x = n then f n else f x) = y := hxe
        by_cases e : f x = n
        · rw [if_pos e] at hxe'; exact absurd hxe'.symm ez
        · rw [if_neg e] at hxe'; exact ⟨x, by omega, hxe'⟩
/-- the same within some of the places -/
theorem inj_surj_on {n : Nat} {f : Nat → Nat} {S : Nat → Prop} (hf : ∀ i, i < n → f i < n) (hi : ∀ i j, i < n → j < n → f i = f j → i = j) (hS : ∀ i, i < n → S i → S (f i)) {y : Nat} (hy : y < n) (hyS : S y) : ∃ x, x < n ∧ S x ∧ f x = y := by
  classical
  obtain ⟨x, hx, hxe⟩ := inj_surj n (fun i => if S i then f i else i) (fun i h => by
    show (if S i then f i else i) < n
    split
    · exact hf i h
    · exact h) (fun i j h1 h2 h => by
    have h' : (if S i then f i else i) = (if S j then f j else j) := h
    by_cases a : S i
    · by_cases b : S j
      · rw [if_pos a, if_pos b] at h'; exact hi i j h1 h2 h'
      · rw [if_pos a, if_neg b] at h'; exact absurd (h' ▸ hS i h1 a) b
    · by_cases b : S j
      · rw [if_neg a, if_pos b] at h'; exact absurd (h' ▸ hS j h2 b) a
      · rw [if_neg a, if_neg b] at h'; exact h') y hy
  have hxe' : (if S x then f x else x) = y := hxe
  by_cases a : S x
  · rw [if_pos a] at hxe'; exact ⟨x, hx, a, hxe'⟩
  · rw [if_neg a] at hxe'; subst hxe'; exact absurd hyS a

/-- what each trader gets: st tells when the circle of a trader went; r i j is the place of the turn j in the wishes of the trader i -/
structure Ttc (n : Nat) (r : Nat → Nat → Nat) (out st : Nat → Nat) : Prop where
  lt : ∀ i, i < n → out i < n
  inj : ∀ i j, i < n → j < n → out i = out j → i = j
  lev : ∀ i, i < n → st (out i) = st i
  best : ∀ i j, i < n → j < n → st i ≤ st j → r i (out i) ≤ r i j
def RInj (n : Nat) (r : Nat → Nat → Nat) : Prop := ∀ i j k, i < n → j < n → k < n → r i j = r i k → j = k
/-- a turn that went before is not to be had later -/
theorem ttc_late {n : Nat} {r : Nat → Nat → Nat} {out st o2 : Nat → Nat} (T : Ttc n r out st) (h2 : ∀ i, i < n → o2 i < n) (i2 : ∀ i j, i < n → j < n → o2 i = o2 j → i = j) {s : Nat} (same : ∀ i, i < n → st i < s → o2 i = out i) {i : Nat} (hi : i < n) (hs : s ≤ st i) : s ≤ st (o2 i) := by
  by_cases h : st (o2 i) < s
  · obtain ⟨x, hx, hxe⟩ := inj_surj n out T.lt T.inj (o2 i) (h2 i hi)
    have hl := T.lev x hx
    rw [hxe] at hl
    have e := same x hx (by omega)
    have := i2 x i hx hi (by rw [e, hxe])
    subst this; omega
  · omega
/-- what traders get who went before the time s hangs on their own wishes alone -/
theorem ttc_same {n : Nat} {r r2 : Nat → Nat → Nat} {out st o2 s2 : Nat → Nat} (hr : RInj n r) (T : Ttc n r out st) (T2 : Ttc n r2 o2 s2) : ∀ s, (∀ i j, i < n → j < n → st i < s → r2 i j = r i j) → ∀ i, i < n → st i < s → o2 i = out i := by
  intro s
  induction s with
  | zero => intro _ i _ h; omega
  | succ s ih =>
    intro hw i hi hs
    have same := ih (fun i j a b c => hw i j a b (by omega))
    by_cases hlt : st i < s
    · exact same i hi hlt
    · have key : ∀ i, i < n → st i = s → s2 i ≤ s2 (out i) → o2 i = out i := fun i hi e h => by
        have a := T2.best i (out i) hi (T.lt i hi) h
        rw [hw i _ hi (T2.lt i hi) (by omega), hw i _ hi (T.lt i hi) (by omega)] at a
        have l := ttc_late T T2.lt T2.inj same hi (by omega)
        have b := T.best i (o2 i) hi (T2.lt i hi) (by omega)
        exact hr i _ _ hi (T2.lt i hi) (T.lt i hi) (Nat.le_antisymm a b)
      have down : ∀ i, i < n → st i = s → s2 (out i) ≤ s2 i := fun i hi e => by
        by_cases h : s2 i ≤ s2 (out i)
        · rw [← key i hi e h, T2.lev i hi]; exact Nat.le_refl _
        · omega
      have e : st i = s := by omega
      refine key i hi e ?_
      by_cases h : s2 i ≤ s2 (out i)
      · exact h
      · obtain ⟨x, hx, ⟨x1, x2⟩, hxe⟩ := inj_surj_on (S := fun x => st x = s ∧ s2 x ≤ s2 (out i)) T.lt T.inj (fun x hx hS => ⟨by rw [T.lev x hx]; exact hS.1, Nat.le_trans (down x hx hS.1) hS.2⟩) (T.lt i hi) ⟨by rw [T.lev i hi]; exact e, Nat.le_refl _⟩
        have := T.inj x i hx hi hxe
        subst this; exact x2
/-- it does not matter which circle goes first -/
theorem ttc_unique {n : Nat} {r : Nat → Nat → Nat} {out st o2 s2 : Nat → Nat} (hr : RInj n r) (T : Ttc n r out st) (T2 : Ttc n r o2 s2) {i : Nat} (hi : i < n) : o2 i = out i := ttc_same hr T T2 (st i + 1) (fun _ _ _ _ _ => rfl) i hi (by omega)
/-- P46: nobody loses -/
theorem ttc_own {n : Nat} {r : Nat → Nat → Nat} {out st : Nat → Nat} (T : Ttc n r out st) {i : Nat} (hi : i < n) : r i (out i) ≤ r i i := T.best i i hi hi (Nat.le_refl _)
/-- P48: nobody gains by false wishes -/
theorem ttc_truth {n : Nat} {r r2 : Nat → Nat → Nat} {out st o2 s2 : Nat → Nat} (hr : RInj n r) (T : Ttc n r out st) (T2 : Ttc n r2 o2 s2) {i : Nat} (hi : i < n) (hw : ∀ k j, k < n → j < n → k ≠ i → r2 k j = r k j) : r i (out i) ≤ r i (o2 i) := by
  have same := ttc_same hr T T2 (st i) (fun k j a b c => hw k j a b (fun e => by subst e; omega))
  exact T.best i (o2 i) hi (T2.lt i hi) (ttc_late T T2.lt T2.inj same hi (Nat.le_refl _))
/-- one step of a ring in which nobody has less: the turn is the one that was given, at the same time -/
theorem ttc_step {n : Nat} {r : Nat → Nat → Nat} {out st : Nat → Nat} (hr : RInj n r) (T : Ttc n r out st) {a b : Nat} (ha : a < n) (hb : b < n) (h : r a b ≤ r a (out a)) (hs : st a ≤ st b) : r a b = r a (out a) ∧ st b = st a := by
  have h1 := T.best a b ha hb hs
  have e := hr a b (out a) ha hb (T.lt a ha) (Nat.le_antisymm h h1)
  exact ⟨Nat.le_antisymm h h1, by rw [e, T.lev a ha]⟩
/-- P47: no two would rather trade -/
theorem ttc_two {n : Nat} {r : Nat → Nat → Nat} {out st : Nat → Nat} (hr : RInj n r) (T : Ttc n r out st) {a b : Nat} (ha : a < n) (hb : b < n) (h1 : r a b ≤ r a (out a)) (h2 : r b a ≤ r b (out b)) : r a b = r a (out a) ∧ r b a = r b (out b) := by
  by_cases hs : st a ≤ st b
  · obtain ⟨e, s⟩ := ttc_step hr T ha hb h1 hs
    exact ⟨e, (ttc_step hr T hb ha h2 (by omega)).1⟩
  · obtain ⟨e, s⟩ := ttc_step hr T hb ha h2 (by omega)
    exact ⟨(ttc_step hr T ha hb h1 (by omega)).1, e⟩
/-- P47: no three would rather trade -/
theorem ttc_three {n : Nat} {r : Nat → Nat → Nat} {out st : Nat → Nat} (hr : RInj n r) (T : Ttc n r out st) {a b c : Nat} (ha : a < n) (hb : b < n) (hc : c < n) (h1 : r a b ≤ r a (out a)) (h2 : r b c ≤ r b (out b)) (h3 : r c a ≤ r c (out c)) : r a b = r a (out a) ∧ r b c = r b (out b) ∧ r c a = r c (out c) := by
  have go : ∀ {a b c : Nat}, a < n → b < n → c < n → r a b ≤ r a (out a) → r b c ≤ r b (out b) → r c a ≤ r c (out c) → st a ≤ st b → st a ≤ st c → r a b = r a (out a) ∧ r b c = r b (out b) ∧ r c a = r c (out c) := fun {a b c} ha hb hc h1 h2 h3 s1 s2 => by
    obtain ⟨e1, t1⟩ := ttc_step hr T ha hb h1 s1
    obtain ⟨e2, t2⟩ := ttc_step hr T hb hc h2 (by omega)
    exact ⟨e1, e2, (ttc_step hr T hc ha h3 (by omega)).1⟩
  by_cases s1 : st a ≤ st b ∧ st a ≤ st c
  · exact go ha hb hc h1 h2 h3 s1.1 s1.2
  · by_cases s2 : st b ≤ st c ∧ st b ≤ st a
    · obtain ⟨x, y, z⟩ := go hb hc ha h2 h3 h1 s2.1 s2.2
      exact ⟨z, x, y⟩
    · obtain ⟨x, y, z⟩ := go hc ha hb h3 h1 h2 (by omega) (by omega)
      exact ⟨y, z, x⟩
end Go.Proofs.Ytdlbjmhjaljlfab
