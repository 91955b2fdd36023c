/- Claims (pure): each number from 0 up is that of one order. No condition but those stated. -/
import Derived.Test.YtojkgabkiagjdacClmO
namespace Go.Proofs.Ytojkgabkiagjdac
set_option linter.unusedVariables false
set_option linter.unusedSimpArgs false
def insK (o : List Nat) (p i : Nat) : List Nat := o.take p ++ [i] ++ o.drop p
def restK (nr : Nat) : Nat → Nat
  | 0 => nr
  | i + 1 => restK nr i / (i + 1)
/-- the order of a number -/
def ordK (nr : Nat) : Nat → List Nat
  | 0 => []
  | i + 1 => insK (ordK nr i) (restK nr i % (i + 1)) i
theorem ordK_len (nr : Nat) : ∀ i, (ordK nr i).length = i := by
  intro i
  induction i with
  | zero => rfl
  | succ i ih =>
    show (insK _ _ _).length = _
    unfold insK
    simp only [List.length_append, List.length_take, List.length_drop, List.length_cons, List.length_nil, ih]
    have : restK nr i % (i + 1) < i + 1 := Nat.mod_lt _ (by omega)
    omega
theorem restK_le (nr : Nat) : ∀ i, restK nr i ≤ nr := by
  intro i
  induction i with
  | zero => exact Nat.le_refl _
  | succ i ih => exact Nat.le_trans (Nat.div_le_self _ _) ih
def ordZ (nr i : Nat) : List Int := (ordK nr i).map Int.ofNat
theorem ordZ_len (nr i : Nat) : (ordZ nr i).length = i := by unfold ordZ; rw [List.length_map, ordK_len]
theorem ordZ_succ (nr i : Nat) : ordZ nr (i + 1) = (ordZ nr i).take (restK nr i % (i + 1)) ++ [(i : Int)] ++ (ordZ nr i).drop (restK nr i % (i + 1)) := by
  unfold ordZ
  show (insK _ _ _).map _ = _
  unfold insK
  simp only [List.map_append, List.map_take, List.map_drop, List.map_cons, List.map_nil]; rfl
theorem ordZ_N (nr i : Nat) : ordN (ordZ nr i) = ordK nr i := by
  unfold ordN ordZ
  rw [List.map_map]
  conv => rhs; rw [← List.map_id (ordK nr i)]
  exact List.map_congr_left (fun x _ => rfl)
/-- the numbers go through all orders -/
theorem ordK_all : ∀ m, m ≤ 5 → ((List.range (facN m)).map (fun nr => ordK nr m)).Perm (allO m) := by
  intro m hm
  match m, hm with
  | 0, _ => decide +kernel
  | 1, _ => decide +kernel
  | 2, _ => decide +kernel
  | 3, _ => decide +kernel
  | 4, _ => decide +kernel
  | 5, _ => decide +kernel
theorem facN_le : ∀ m, m ≤ 5 → 1 ≤ facN m ∧ facN m ≤ 120 := by
  intro m hm
  match m, hm with
  | 0, _ => decide
  | 1, _ => decide
  | 2, _ => decide
  | 3, _ => decide
  | 4, _ => decide
  | 5, _ => decide
theorem ordK_in {m nr : Nat} (hm : m ≤ 5) (h : nr < facN m) : ordK nr m ∈ allO m :=
  (ordK_all m hm).mem_iff.1 (List.mem_map.2 ⟨nr, List.mem_range.2 h, rfl⟩)
theorem ordZ_ord {m nr : Nat} (hm : m ≤ 5) (h : nr < facN m) : ordB m (ordZ nr m) = true := by
  obtain ⟨a, b, c⟩ := (all_mem m _).1 (ordK_in hm h)
  rw [ordB_iff]
  refine ⟨ordZ_len nr m, ?_, fun x hx => ?_⟩
  · unfold ordZ
    show List.Pairwise _ _
    rw [List.pairwise_map]
    exact a.imp (fun h e => h (by have := Int.ofNat.inj e; exact this))
  · unfold ordZ at hx
    obtain ⟨y, hy, rfl⟩ := List.mem_map.1 hx
    have := b y hy
    show (0 : Int) ≤ (y : Int) ∧ (y : Int) < (m : Int)
    omega
/-- what the orders with numbers of at least F - j give together -/
def accT (n : Int) (cs : List Int) (F : Nat) : Nat → List Int
  | 0 => List.replicate cs.length 0
  | j + 1 => addZ (accT n cs F j) (turnV n cs (ordZ (F - 1 - j) cs.length))
theorem accT_len (n : Int) (cs : List Int) (F : Nat) : ∀ j, (accT n cs F j).length = cs.length := by
  intro j
  induction j with
  | zero => exact List.length_replicate ..
  | succ j ih => show (addZ _ _).length = _; rw [addZ_len]; exact ih
theorem accT_get {n : Int} {cs : List Int} (h5 : cs.length ≤ 5) {i : Nat} (hi : i < cs.length) : ∀ j, j ≤ facN cs.length → (accT n cs (facN cs.length) j).getD i 0 = ((List.range j).map (fun q => getP (clF cs) n (ordK (facN cs.length - 1 - q) cs.length) i)).sum := by
  intro j
  induction j with
  | zero => intro _; show (List.replicate _ _).getD i 0 = _; rw [rep_get]; rfl
  | succ j ih =>
    intro h
    show (addZ _ _).getD i 0 = _
    rw [addZ_get _ _ (by rw [accT_len]; exact hi), ih (by omega), turn_get n (ordZ_ord h5 (by omega)) hi, ordZ_N, List.range_succ, List.map_append, List.sum_append]
    simp
theorem range_rev (F : Nat) : (List.range F).map (fun q => F - 1 - q) = (List.range F).reverse := by
  apply List.ext_getElem
  · simp
  · intro i h1 h2
    simp at h1
    rw [List.getElem_map, List.getElem_range, List.getElem_reverse, List.getElem_range]; simp
theorem accT_end {n : Int} {cs : List Int} (h5 : cs.length ≤ 5) : accT n cs (facN cs.length) (facN cs.length) = totV n cs := by
  refine ext_z (by rw [accT_len, totV_len]) (fun i hi => ?_)
  rw [accT_len] at hi
  rw [accT_get h5 hi _ (Nat.le_refl _), totV_get n cs hi]
  unfold ordS
  have e : (List.range (facN cs.length)).map (fun q => getP (clF cs) n (ordK (facN cs.length - 1 - q) cs.length) i) = ((List.range (facN cs.length)).map (fun q => facN cs.length - 1 - q)).map (fun nr => getP (clF cs) n (ordK nr cs.length) i) := by rw [List.map_map]; rfl
  rw [e, range_rev]
  have p : (((List.range (facN cs.length)).reverse).map (fun nr => ordK nr cs.length)).Perm (allO cs.length) := ((List.reverse_perm _).map _).trans (ordK_all cs.length h5)
  have q := perm_sumL p (fun o => getP (clF cs) n o i)
  rw [List.map_map] at q
  exact q
theorem accT_bd {n : Int} {cs : List Int} (h5 : cs.length ≤ 5) (hc : ∀ i, 0 ≤ clF cs i) (hn : 0 ≤ n) {i : Nat} (hi : i < cs.length) : ∀ j, j ≤ facN cs.length → 0 ≤ (accT n cs (facN cs.length) j).getD i 0 ∧ (accT n cs (facN cs.length) j).getD i 0 ≤ n * (j : Int) := by
  intro j
  induction j with
  | zero => intro _; show 0 ≤ (List.replicate _ _).getD i 0 ∧ (List.replicate _ _).getD i 0 ≤ _; rw [rep_get]; simp
  | succ j ih =>
    intro h
    have a := ih (by omega)
    have b := get_bd hc (ordK (facN cs.length - 1 - j) cs.length) n i hn
    show 0 ≤ (addZ _ _).getD i 0 ∧ (addZ _ _).getD i 0 ≤ _
    rw [addZ_get _ _ (by rw [accT_len]; exact hi), turn_get n (ordZ_ord h5 (by omega)) hi, ordZ_N, show ((j + 1 : Nat) : Int) = (j : Int) + 1 by omega, Int.mul_add]
    omega
end Go.Proofs.Ytojkgabkiagjdac
