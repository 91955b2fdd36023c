/- Leases of a ledger: which are valid, who uses the water. No condition but those stated. -/
import Derived.Test.YthagafkjlecagabGrA
namespace Go.Proofs.Ythagafkjlecagab

structure Lz where
  owner : Int
  tenant : Int
  part : Rat
  fr : Int
  til : Int
/-- m runs when l begins, for the same owner -/
def runsB (l m : Lz) : Bool := decide (m.owner = l.owner) && decide (m.fr ≤ l.fr) && decide (l.fr < m.til)
/-- the parts of leases that run when l begins -/
def usedL (l : Lz) : List Lz → Rat
  | [] => 0
  | m :: t => (if runsB l m then m.part else 0) + usedL l t
theorem used_append (l : Lz) (A B : List Lz) : usedL l (A ++ B) = usedL l A + usedL l B := by
  induction A with
  | nil => show usedL l B = 0 + usedL l B; grind
  | cons h t ih => show _ + usedL l (t ++ B) = _ + usedL l t + usedL l B; rw [ih]; grind
theorem used_nonneg (l : Lz) {A : List Lz} (h : ∀ m ∈ A, 0 ≤ m.part) : 0 ≤ usedL l A := by
  induction A with
  | nil => exact Rat.le_refl
  | cons m t ih =>
    have a := h m (by simp)
    have b := ih (fun x hx => h x (by simp [hx]))
    show 0 ≤ (if runsB l m then m.part else 0) + usedL l t
    split <;> grind
/-- sums of the first leases that run when l begins are fractions -/
def sumsOk (Z : List Lz) (l : Lz) : Prop := ∀ k, k ≤ Z.length → frB (usedL l (Z.take k)) = true
structure VZ (L : Led) (Z : List Lz) : Prop where
  len : Z.length ≤ 10
  each : ∀ l ∈ Z, 1 ≤ l.tenant ∧ l.tenant ≤ 999 ∧ l.tenant ≠ l.owner ∧ frB l.part = true ∧ l.part ≠ 0 ∧ 0 ≤ l.fr ∧ l.fr ≤ 5000 ∧ l.fr + 1 ≤ l.til ∧ l.til ≤ 5000
  sums : ∀ l ∈ Z, sumsOk Z l
  share : ∀ l ∈ Z, usedL l Z ≤ shareL L l.owner
/-- P26: without one of them -/
theorem vz_less {L : Led} {A B : List Lz} {x : Lz} (h : VZ L (A ++ x :: B)) (hs : ∀ l ∈ A ++ B, sumsOk (A ++ B) l) : VZ L (A ++ B) := by
  have hm : ∀ l ∈ A ++ B, l ∈ A ++ x :: B := fun l hl => by
    rcases List.mem_append.1 hl with h | h
    · simp [h]
    · simp [h]
  refine ⟨?_, fun l hl => h.each l (hm l hl), hs, fun l hl => ?_⟩
  · have := h.len; rw [List.length_append, List.length_cons] at this; rw [List.length_append]; omega
  · have h1 := h.share l (hm l hl)
    have h2 : usedL l (A ++ x :: B) = usedL l A + ((if runsB l x then x.part else 0) + usedL l B) := by rw [used_append]; rfl
    have h3 : 0 ≤ x.part := frB_nonneg (h.each x (by simp)).2.2.2.1
    rw [used_append]
    rw [h2] at h1
    split at h1 <;> grind
theorem vz_nil (L : Led) : VZ L [] := ⟨by simp, fun l hl => by simp at hl, fun l hl => by simp at hl, fun l hl => by simp at hl⟩
/-- the ledger of users after the leases that run at t -/
def useL (t : Int) : Led → List Lz → Led
  | L, [] => L
  | L, l :: r => useL t (if l.fr ≤ t ∧ t < l.til then soldL L l.owner l.tenant l.part else L) r
/-- whether each part can go over -/
def useOk (t : Int) : Led → List Lz → Prop
  | _, [] => True
  | L, l :: r => (l.fr ≤ t ∧ t < l.til → frB (shareL L l.owner - l.part) = true ∧ frB (shareL L l.tenant + l.part) = true) ∧ useOk t (if l.fr ≤ t ∧ t < l.til then soldL L l.owner l.tenant l.part else L) r
theorem use_append (t : Int) : ∀ (A B : List Lz) (L : Led), useL t L (A ++ B) = useL t (useL t L A) B := by
  intro A
  induction A with
  | nil => intro B L; rfl
  | cons x r ih => intro B L; exact ih B _
theorem useOk_append (t : Int) : ∀ (A B : List Lz) (L : Led), useOk t L (A ++ B) ↔ useOk t L A ∧ useOk t (useL t L A) B := by
  intro A
  induction A with
  | nil => intro B L; show useOk t L B ↔ True ∧ useOk t L B; simp
  | cons x r ih =>
    intro B L
    show _ ∧ useOk t _ (r ++ B) ↔ (_ ∧ useOk t _ r) ∧ useOk t (useL t _ r) B
    rw [ih]; exact and_assoc.symm
/-- P27: no lease runs -/
theorem use_none (t : Int) : ∀ (Z : List Lz) (L : Led), (∀ l ∈ Z, ¬ (l.fr ≤ t ∧ t < l.til)) → useL t L Z = L := by
  intro Z
  induction Z with
  | nil => intro L _; rfl
  | cons x r ih =>
    intro L h
    show useL t (if _ then _ else _) r = L
    rw [if_neg (h x (by simp))]
    exact ih L (fun l hl => h l (by simp [hl]))
theorem use_asc (t : Int) : ∀ (Z : List Lz) (L : Led), Asc L → Asc (useL t L Z) := by
  intro Z
  induction Z with
  | nil => intro L h; exact h
  | cons x r ih =>
    intro L h
    refine ih _ ?_
    split
    · exact asc_set (asc_set h _ _) _ _
    · exact h
/-- one lease, as the model makes it: first the owner has less, then the tenant more -/
theorem sold_two {L : Led} (ha : Asc L) {f t : Int} (hft : t ≠ f) (p : Rat) : setL (setL L f (shareL L f - p)) t (shareL (setL L f (shareL L f - p)) t + p) = soldL L f t p := by
  unfold soldL
  rw [share_set ha, if_neg hft]
end Go.Proofs.Ythagafkjlecagab
