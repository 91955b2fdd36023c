/- Channels as lists of nodes (pure): what a valid one is, kids, paths. No condition but those stated. -/
import Derived.Test.YtgmmdpdlekpmfaaGrB
namespace Go.Proofs.Ytgmmdpdlekpmfaa

/-- the measures of a node -/
def mB (x : Nd) : Bool := (decide (0 ≤ x.2.1) && decide (x.2.1 ≤ 1000)) && (decide (0 ≤ x.2.2.1) && decide (x.2.2.1 ≤ 500)) && (decide (0 ≤ x.2.2.2.1) && decide (x.2.2.2.1 ≤ 500)) && (decide (0 ≤ x.2.2.2.2) && decide (x.2.2.2.2 ≤ 20))
/-- the parent of a node -/
def pB (p : Int) (k : Nat) : Bool := if k = 0 then decide (p = -1) else decide (0 ≤ p) && decide (p < (k : Int))
def okN (ns : List Nd) (k : Nat) : Bool := pB (ns.getD k nd0).1 k && mB (ns.getD k nd0)
/-- a valid channel -/
def vnB (ns : List Nd) : Bool := decide (1 ≤ ns.length) && decide (ns.length ≤ 12) && (List.range ns.length).all (okN ns)
theorem mB_iff (x : Nd) : mB x = true ↔ (0 ≤ x.2.1 ∧ x.2.1 ≤ 1000) ∧ (0 ≤ x.2.2.1 ∧ x.2.2.1 ≤ 500) ∧ (0 ≤ x.2.2.2.1 ∧ x.2.2.2.1 ≤ 500) ∧ (0 ≤ x.2.2.2.2 ∧ x.2.2.2.2 ≤ 20) := by
  unfold mB; simp only [Bool.and_eq_true, decide_eq_true_eq, and_assoc]
theorem pB_zero (p : Int) : pB p 0 = decide (p = -1) := rfl
theorem pB_pos (p : Int) {k : Nat} (h : 0 < k) : pB p k = (decide (0 ≤ p) && decide (p < (k : Int))) := by unfold pB; rw [if_neg (by omega)]
theorem vn_no0 {ns : List Nd} (h : ns.length < 1) : vnB ns = false := by unfold vnB; rw [decide_eq_false (by omega : ¬ 1 ≤ ns.length)]; rfl
theorem vn_no1 {ns : List Nd} (h : 12 < ns.length) : vnB ns = false := by unfold vnB; rw [decide_eq_false (by omega : ¬ ns.length ≤ 12)]; simp
theorem vn_no2 {ns : List Nd} {k : Nat} (hk : k < ns.length) (h : okN ns k = false) : vnB ns = false := by unfold vnB; rw [rng_no hk h]; simp
theorem vn_end {ns : List Nd} (h3 : ∀ j, j < ns.length → okN ns j = true) : vnB ns = (decide (1 ≤ (ns.length : Int)) && decide ((ns.length : Int) ≤ 12)) := by
  unfold vnB; rw [rng_yes h3, Bool.and_true]
  congr 1
  · by_cases h : 1 ≤ ns.length
    · rw [decide_eq_true h, decide_eq_true (by omega)]
    · rw [decide_eq_false h, decide_eq_false (by omega)]
  · by_cases h : ns.length ≤ 12
    · rw [decide_eq_true h, decide_eq_true (by omega)]
    · rw [decide_eq_false h, decide_eq_false (by omega)]
theorem vn_yes {ns : List Nd} (h1 : 1 ≤ ns.length) (h2 : ns.length ≤ 12) (h3 : ∀ j, j < ns.length → okN ns j = true) : vnB ns = true := by
  rw [vn_end h3, decide_eq_true (by omega), decide_eq_true (by omega)]; rfl
theorem vn_is {ns : List Nd} (h : vnB ns = true) : 1 ≤ ns.length ∧ ns.length ≤ 12 ∧ ∀ j, j < ns.length → okN ns j = true := by
  unfold vnB at h
  simp only [Bool.and_eq_true, decide_eq_true_eq, rng_all] at h
  exact ⟨h.1.1, h.1.2, h.2⟩
/-- what holds of a node of a valid channel -/
theorem vn_at {ns : List Nd} (h : vnB ns = true) {k : Nat} (hk : k < ns.length) :
    (0 ≤ (ns.getD k nd0).2.1 ∧ (ns.getD k nd0).2.1 ≤ 1000) ∧ (0 ≤ (ns.getD k nd0).2.2.1 ∧ (ns.getD k nd0).2.2.1 ≤ 500) ∧ (0 ≤ (ns.getD k nd0).2.2.2.1 ∧ (ns.getD k nd0).2.2.2.1 ≤ 500) ∧ (0 ≤ (ns.getD k nd0).2.2.2.2 ∧ (ns.getD k nd0).2.2.2.2 ≤ 20) := by
  have := (vn_is h).2.2 k hk
  unfold okN at this
  rw [Bool.and_eq_true] at this
  exact (mB_iff _).1 this.2
theorem vn_par0 {ns : List Nd} (h : vnB ns = true) : (ns.getD 0 nd0).1 = -1 := by
  have := (vn_is h).2.2 0 (vn_is h).1
  unfold okN at this
  rw [Bool.and_eq_true, pB_zero, decide_eq_true_eq] at this
  exact this.1
theorem vn_par {ns : List Nd} (h : vnB ns = true) {k : Nat} (hk : k < ns.length) (h0 : 0 < k) : 0 ≤ (ns.getD k nd0).1 ∧ (ns.getD k nd0).1 < (k : Int) := by
  have := (vn_is h).2.2 k hk
  unfold okN at this
  rw [Bool.and_eq_true, pB_pos _ h0, Bool.and_eq_true, decide_eq_true_eq, decide_eq_true_eq] at this
  exact this.1
theorem vn_parI {ns : List Nd} (h : vnB ns = true) {k : Nat} (hk : k < ns.length) : -1 ≤ (ns.getD k nd0).1 ∧ (ns.getD k nd0).1 < (k : Int) := by
  by_cases h0 : 0 < k
  · have := vn_par h hk h0; omega
  · obtain rfl : k = 0 := by omega
    rw [vn_par0 h]; constructor <;> omega

/-- an index -/
def inN (n : Nat) (i : Int) : Bool := decide (0 ≤ i) && decide (i < (n : Int))
theorem inN_yes {n : Nat} {i : Int} (h : inN n i = true) : ∃ k : Nat, i = (k : Int) ∧ k < n := by
  unfold inN at h
  simp only [Bool.and_eq_true, decide_eq_true_eq] at h
  exact ⟨i.toNat, by omega, by omega⟩
theorem inN_no {n : Nat} {i : Int} (h : inN n i = false) : i < 0 ∨ (n : Int) - 1 < i := by
  have : ¬ (0 ≤ i ∧ i < (n : Int)) := fun c => by unfold inN at h; rw [decide_eq_true c.1, decide_eq_true c.2] at h; cases h
  omega
theorem inN_is {n k : Nat} (h : k < n) : inN n (k : Int) = true := by
  unfold inN; rw [decide_eq_true (by omega), decide_eq_true (by omega)]; rfl

/-- the kids of a node among the first k nodes -/
def kidsTo (ns : List Nd) (at_ : Int) : Nat → List Int
  | 0 => []
  | k + 1 => if (ns.getD k nd0).1 = at_ then kidsTo ns at_ k ++ [(k : Int)] else kidsTo ns at_ k
theorem kidsTo_yes {ns : List Nd} {at_ : Int} {k : Nat} (h : (ns.getD k nd0).1 = at_) : kidsTo ns at_ (k + 1) = kidsTo ns at_ k ++ [(k : Int)] := if_pos h
theorem kidsTo_no {ns : List Nd} {at_ : Int} {k : Nat} (h : ¬ (ns.getD k nd0).1 = at_) : kidsTo ns at_ (k + 1) = kidsTo ns at_ k := if_neg h
theorem kidsTo_len (ns : List Nd) (at_ : Int) : ∀ k, (kidsTo ns at_ k).length ≤ k := by
  intro k
  induction k with
  | zero => exact Nat.le_refl _
  | succ k ih =>
    by_cases h : (ns.getD k nd0).1 = at_
    · rw [kidsTo_yes h, List.length_append]; show _ + 1 ≤ _; omega
    · rw [kidsTo_no h]; omega
def kidsF (ns : List Nd) (at_ : Int) : List Int := kidsTo ns at_ ns.length
/-- what KidsOf gives -/
def kidsV (ns : List Nd) (at_ : Int) : List Int := if (vnB ns && inN ns.length at_) = true then kidsF ns at_ else []
theorem kids_no {ns : List Nd} {at_ : Int} (h : vnB ns = false ∨ inN ns.length at_ = false) : kidsV ns at_ = [] := by
  unfold kidsV; rw [if_neg]; rcases h with h | h <;> rw [h] <;> simp
theorem kids_yes {ns : List Nd} {at_ : Int} (h : vnB ns = true) (h2 : inN ns.length at_ = true) : kidsV ns at_ = kidsF ns at_ := by
  unfold kidsV; rw [h, h2]; rfl
theorem kidsTo_mem (ns : List Nd) (at_ : Int) : ∀ k, ∀ z ∈ kidsTo ns at_ k, ∃ j : Nat, z = (j : Int) ∧ j < k ∧ (ns.getD j nd0).1 = at_ := by
  intro k
  induction k with
  | zero => intro z h; cases h
  | succ k ih =>
    intro z hz
    by_cases h : (ns.getD k nd0).1 = at_
    · rw [kidsTo_yes h, List.mem_append, List.mem_singleton] at hz
      rcases hz with hz | rfl
      · obtain ⟨j, a, b, c⟩ := ih z hz; exact ⟨j, a, by omega, c⟩
      · exact ⟨k, rfl, by omega, h⟩
    · rw [kidsTo_no h] at hz
      obtain ⟨j, a, b, c⟩ := ih z hz; exact ⟨j, a, by omega, c⟩
theorem kidsTo_in {ns : List Nd} {at_ : Int} {j : Nat} (h : (ns.getD j nd0).1 = at_) : ∀ k, j < k → (j : Int) ∈ kidsTo ns at_ k := by
  intro k
  induction k with
  | zero => intro h; omega
  | succ k ih =>
    intro hk
    by_cases e : j = k
    · subst e; rw [kidsTo_yes h]; exact List.mem_append_right _ (List.mem_singleton.2 rfl)
    · have := ih (by omega)
      by_cases h2 : (ns.getD k nd0).1 = at_
      · rw [kidsTo_yes h2]; exact List.mem_append_left _ this
      · rw [kidsTo_no h2]; exact this
theorem kids_bd {ns : List Nd} {at_ : Int} {z : Int} (h : z ∈ kidsF ns at_) : ∃ j : Nat, z = (j : Int) ∧ j < ns.length ∧ (ns.getD j nd0).1 = at_ := kidsTo_mem ns at_ _ z h

/-- the path to a node, the node behind its parent's path -/
def pathTo (ns : List Nd) : Nat → Int → List Int
  | 0, _ => []
  | f + 1, i => if i < 0 then [] else pathTo ns f (ns.getD i.toNat nd0).1 ++ [i]
theorem pathTo_more {ns : List Nd} (h : vnB ns = true) : ∀ (f : Nat) (i : Int), i < (ns.length : Int) → i < (f : Int) → pathTo ns (f + 1) i = pathTo ns f i := by
  intro f
  induction f with
  | zero => intro i _ hi; have : i < 0 := by omega
            show (if i < 0 then [] else _) = []; rw [if_pos this]
  | succ f ih =>
    intro i hi hf
    by_cases h0 : i < 0
    · show (if i < 0 then [] else _) = (if i < 0 then [] else _); rw [if_pos h0, if_pos h0]
    · show (if i < 0 then [] else pathTo ns (f + 1) (ns.getD i.toNat nd0).1 ++ [i]) = (if i < 0 then [] else pathTo ns f (ns.getD i.toNat nd0).1 ++ [i])
      have b := vn_parI h (k := i.toNat) (by omega)
      rw [if_neg h0, if_neg h0, ih _ (by omega) (by omega)]
def pathF (ns : List Nd) (i : Int) : List Int := pathTo ns ns.length i
theorem pathTo_step {ns : List Nd} (h : vnB ns = true) {k : Nat} (hk : k < ns.length) : pathF ns (k : Int) = pathF ns (ns.getD k nd0).1 ++ [(k : Int)] := by
  have b := vn_parI h hk
  obtain ⟨m, hm⟩ : ∃ m, ns.length = m + 1 := ⟨ns.length - 1, by omega⟩
  unfold pathF
  rw [hm]
  show (if (k : Int) < 0 then [] else pathTo ns m (ns.getD ((k : Int)).toNat nd0).1 ++ [(k : Int)]) = _
  rw [if_neg (by omega), show ((k : Int)).toNat = k from by omega, pathTo_more h m _ (by omega) (by omega)]
theorem pathF_neg (ns : List Nd) {i : Int} (h : i < 0) : pathF ns i = [] := by
  unfold pathF
  cases ns.length with
  | zero => rfl
  | succ m => show (if i < 0 then [] else _) = []; rw [if_pos h]
theorem pathTo_len (ns : List Nd) : ∀ (f : Nat) (i : Int), (pathTo ns f i).length ≤ f := by
  intro f
  induction f with
  | zero => intro i; exact Nat.le_refl _
  | succ f ih =>
    intro i
    show (if i < 0 then [] else pathTo ns f (ns.getD i.toNat nd0).1 ++ [i]).length ≤ _
    split
    · simp
    · rw [List.length_append]; have := ih (ns.getD i.toNat nd0).1; show _ + 1 ≤ _; omega
theorem pathTo_mem {ns : List Nd} (h : vnB ns = true) : ∀ (f : Nat) (i : Int), i < (ns.length : Int) → ∀ z ∈ pathTo ns f i, ∃ j : Nat, z = (j : Int) ∧ j < ns.length := by
  intro f
  induction f with
  | zero => intro i _ z hz; cases hz
  | succ f ih =>
    intro i hi z hz
    by_cases h0 : i < 0
    · have : pathTo ns (f + 1) i = [] := if_pos h0
      rw [this] at hz; cases hz
    · have : pathTo ns (f + 1) i = pathTo ns f (ns.getD i.toNat nd0).1 ++ [i] := if_neg h0
      rw [this, List.mem_append, List.mem_singleton] at hz
      have b := vn_parI h (k := i.toNat) (by omega)
      rcases hz with hz | rfl
      · exact ih _ (by omega) z hz
      · exact ⟨z.toNat, by omega, by omega⟩
def pathV (ns : List Nd) (at_ : Int) : List Int := if (vnB ns && inN ns.length at_) = true then pathF ns at_ else []
theorem path_no {ns : List Nd} {at_ : Int} (h : vnB ns = false ∨ inN ns.length at_ = false) : pathV ns at_ = [] := by
  unfold pathV; rw [if_neg]; rcases h with h | h <;> rw [h] <;> simp
theorem path_yes {ns : List Nd} {at_ : Int} (h : vnB ns = true) (h2 : inN ns.length at_ = true) : pathV ns at_ = pathF ns at_ := by
  unfold pathV; rw [h, h2]; rfl
/-- the delays of nodes -/
def dly (ns : List Nd) (z : Int) : Int := (ns.getD z.toNat nd0).2.2.2.2
def dlySum (ns : List Nd) : List Int → Int
  | [] => 0
  | z :: t => dly ns z + dlySum ns t
theorem dlySum_append (ns : List Nd) (a b : List Int) : dlySum ns (a ++ b) = dlySum ns a + dlySum ns b := by
  induction a with
  | nil => show dlySum ns b = 0 + dlySum ns b; omega
  | cons h t ih => show dly ns h + dlySum ns (t ++ b) = dly ns h + dlySum ns t + _; rw [ih]; omega
theorem dlySum_bd {ns : List Nd} (h : vnB ns = true) : ∀ l : List Int, (∀ z ∈ l, ∃ j : Nat, z = (j : Int) ∧ j < ns.length) → 0 ≤ dlySum ns l ∧ dlySum ns l ≤ 20 * (l.length : Int) := by
  intro l
  induction l with
  | nil => intro _; exact ⟨Int.le_refl _, by show (0 : Int) ≤ 20 * ((0 : Nat) : Int); omega⟩
  | cons z t ih =>
    intro hz
    obtain ⟨a, b⟩ := ih (fun y hy => hz y (List.mem_cons_of_mem _ hy))
    obtain ⟨j, rfl, hj⟩ := hz z (List.mem_cons_self ..)
    have c := (vn_at h hj).2.2.2
    have e : dly ns (j : Int) = (ns.getD j nd0).2.2.2.2 := rfl
    show 0 ≤ dly ns (j : Int) + dlySum ns t ∧ dly ns (j : Int) + dlySum ns t ≤ 20 * ((t.length + 1 : Nat) : Int)
    rw [e]; omega
def delayF (ns : List Nd) (at_ : Int) : Int := dlySum ns (pathF ns at_)
def delayV (ns : List Nd) (at_ : Int) : Int := if (vnB ns && inN ns.length at_) = true then delayF ns at_ else -1
theorem delay_no {ns : List Nd} {at_ : Int} (h : vnB ns = false ∨ inN ns.length at_ = false) : delayV ns at_ = -1 := by
  unfold delayV; rw [if_neg]; rcases h with h | h <;> rw [h] <;> simp
theorem delay_yes {ns : List Nd} {at_ : Int} (h : vnB ns = true) (h2 : inN ns.length at_ = true) : delayV ns at_ = delayF ns at_ := by
  unfold delayV; rw [h, h2]; rfl
theorem delay_bd {ns : List Nd} (h : vnB ns = true) {k : Nat} (hk : k < ns.length) : 0 ≤ delayF ns (k : Int) ∧ delayF ns (k : Int) ≤ 240 := by
  have a := dlySum_bd h _ (pathTo_mem h ns.length (k : Int) (by omega))
  have b := pathTo_len ns ns.length (k : Int)
  have c := (vn_is h).2.1
  unfold delayF pathF; omega
/-- the nodes without kids among the first k -/
def leavesTo (ns : List Nd) : Nat → List Int
  | 0 => []
  | k + 1 => if (kidsF ns (k : Int)).length = 0 then leavesTo ns k ++ [(k : Int)] else leavesTo ns k
theorem leavesTo_yes {ns : List Nd} {k : Nat} (h : (kidsF ns (k : Int)).length = 0) : leavesTo ns (k + 1) = leavesTo ns k ++ [(k : Int)] := if_pos h
theorem leavesTo_no {ns : List Nd} {k : Nat} (h : ¬ (kidsF ns (k : Int)).length = 0) : leavesTo ns (k + 1) = leavesTo ns k := if_neg h
theorem leavesTo_len (ns : List Nd) : ∀ k, (leavesTo ns k).length ≤ k := by
  intro k
  induction k with
  | zero => exact Nat.le_refl _
  | succ k ih =>
    by_cases h : (kidsF ns (k : Int)).length = 0
    · rw [leavesTo_yes h, List.length_append]; show _ + 1 ≤ _; omega
    · rw [leavesTo_no h]; omega
def leavesV (ns : List Nd) : List Int := if vnB ns = true then leavesTo ns ns.length else []
end Go.Proofs.Ytgmmdpdlekpmfaa
