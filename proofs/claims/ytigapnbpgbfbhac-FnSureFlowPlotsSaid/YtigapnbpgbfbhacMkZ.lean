/- Lists of numbers told by a function, and lists that are made anew from the left (pure). No condition. -/
import Derived.Test.YtigapnbpgbfbhacGrA
namespace Go.Proofs.Ytigapnbpgbfbhac
set_option linter.unusedVariables false
set_option linter.unusedSimpArgs false

/-- numbers told by a function -/
def mkZ (n : Nat) (f : Nat → Int) : List Int := (List.range n).map f
theorem mkZ_len (n : Nat) (f : Nat → Int) : (mkZ n f).length = n := by unfold mkZ; simp
theorem mkZ_get {n : Nat} (f : Nat → Int) {i : Nat} (h : i < n) : (mkZ n f).getD i 0 = f i := by
  unfold mkZ; rw [List.getD_eq_getElem?_getD, List.getElem?_map, List.getElem?_range h]; rfl
theorem mkZ_out {n : Nat} (f : Nat → Int) {i : Nat} (h : ¬ i < n) : (mkZ n f).getD i 0 = 0 := by
  rw [List.getD_eq_getElem?_getD, List.getElem?_eq_none (by rw [mkZ_len]; omega)]; rfl
theorem mkZ_ext {n : Nat} {f g : Nat → Int} (h : ∀ i, i < n → f i = g i) : mkZ n f = mkZ n g := by
  refine ext_z (by rw [mkZ_len, mkZ_len]) (fun i hi => ?_)
  rw [mkZ_len] at hi
  rw [mkZ_get f hi, mkZ_get g hi, h i hi]
theorem mkZ_self {zs : List Int} {n : Nat} (h : zs.length = n) : mkZ n (fun i => zs.getD i 0) = zs := by
  refine ext_z (by rw [mkZ_len, h]) (fun i hi => ?_)
  rw [mkZ_len] at hi
  rw [mkZ_get _ hi]
/-- numbers of which the first m have been made anew -/
def accTo (cs : List Int) (d : Nat → Int) (m : Nat) : List Int := mkZ cs.length (fun j => if j < m then d j else cs.getD j 0)
theorem accTo_len (cs : List Int) (d : Nat → Int) (m : Nat) : (accTo cs d m).length = cs.length := by unfold accTo; rw [mkZ_len]
theorem accTo_zero (cs : List Int) (d : Nat → Int) : accTo cs d 0 = cs := by
  refine ext_z (accTo_len cs d 0) (fun i hi => ?_)
  rw [accTo_len] at hi
  unfold accTo; rw [mkZ_get _ hi, if_neg (Nat.not_lt_zero _)]
theorem accTo_end {cs : List Int} {n : Nat} (d : Nat → Int) (h : cs.length = n) : accTo cs d n = mkZ n d := by
  unfold accTo; rw [h]; exact mkZ_ext (fun i hi => if_pos hi)
theorem accTo_own {cs : List Int} (d : Nat → Int) {m : Nat} (h : m < cs.length) : (accTo cs d m).getD m 0 = cs.getD m 0 := by
  unfold accTo; rw [mkZ_get _ h, if_neg (by omega)]
theorem accTo_succ {cs : List Int} (d : Nat → Int) {m : Nat} (h : m < cs.length) : (accTo cs d m).set m (d m) = accTo cs d (m + 1) := by
  refine ext_z (by rw [List.length_set, accTo_len, accTo_len]) (fun i hi => ?_)
  rw [List.length_set, accTo_len] at hi
  rw [getD_setZ i _ (by rw [accTo_len]; exact h)]
  unfold accTo
  rw [mkZ_get _ hi, mkZ_get _ hi]
  by_cases e : i = m
  · subst e; rw [if_pos rfl, if_pos (by omega)]
  · rw [if_neg e]
    by_cases f : i < m
    · rw [if_pos f, if_pos (by omega)]
    · rw [if_neg f, if_neg (by omega)]

theorem repl_get (n j : Nat) : (List.replicate n (0 : Int)).getD j 0 = 0 := by
  rw [List.getD_eq_getElem?_getD, List.getElem?_replicate]; split <;> rfl
/-- without one of them -/
def rmv {α : Type} (l : List α) (i : Nat) : List α := l.take i ++ l.drop (i + 1)
theorem rmv_len {α : Type} {l : List α} {i : Nat} (h : i < l.length) : (rmv l i).length = l.length - 1 := by
  unfold rmv; rw [List.length_append, List.length_take, List.length_drop]; omega
theorem rmv_get {α : Type} {l : List α} {i : Nat} (h : i < l.length) (j : Nat) (d : α) : (rmv l i).getD j d = if j < i then l.getD j d else l.getD (j + 1) d := by
  unfold rmv
  rw [List.getD_eq_getElem?_getD]
  by_cases c : j < i
  · rw [if_pos c, List.getElem?_append_left (by rw [List.length_take]; omega), List.getElem?_take_of_lt c, List.getD_eq_getElem?_getD]
  · rw [if_neg c, List.getElem?_append_right (by rw [List.length_take]; omega), List.getElem?_drop, List.length_take, List.getD_eq_getElem?_getD, show i + 1 + (j - min i l.length) = j + 1 from by omega]
end Go.Proofs.Ytigapnbpgbfbhac
