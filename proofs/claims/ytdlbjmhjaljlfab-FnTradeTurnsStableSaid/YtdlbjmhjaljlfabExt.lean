/- Lists of numbers, and marks (pure). No condition. -/
namespace Go.Proofs.Ytdlbjmhjaljlfab
set_option linter.unusedVariables false

theorem getD_setZ {zs : List Int} {i : Nat} (j : Nat) (z : Int) (hi : i < zs.length) : (zs.set i z).getD j 0 = if j = i then z else zs.getD j 0 := by
  rw [List.getD_eq_getElem?_getD, List.getD_eq_getElem?_getD, List.getElem?_set]
  by_cases e : i = j
  · subst e; rw [if_pos rfl, if_pos hi, if_pos rfl]; rfl
  · rw [if_neg e, if_neg (fun c => e c.symm)]
theorem ext_z {l l' : List Int} (hl : l.length = l'.length) (h : ∀ i, i < l.length → l.getD i 0 = l'.getD i 0) : l = l' := by
  apply List.ext_getElem hl
  intro i h1 h2
  have := h i h1
  rwa [List.getD_eq_getElem?_getD, List.getElem?_eq_getElem h1, List.getD_eq_getElem?_getD, List.getElem?_eq_getElem h2] at this
/-- 1, 2, 3 .. -/
def marksF (n : Nat) : List Int := (List.range n).map fun (i : Nat) => (1 : Int) + (i : Int)
theorem marksF_len (n : Nat) : (marksF n).length = n := by unfold marksF; simp
theorem marksF_get (n : Nat) {k : Nat} (h : k < n) : (marksF n).getD k 0 = 1 + (k : Int) := by
  unfold marksF
  rw [List.getD_eq_getElem?_getD, List.getElem?_map, List.getElem?_range h]; rfl
/-- the first j numbers are marks -/
def markTo (zs : List Int) (j : Nat) : List Int := marksF j ++ zs.drop j
theorem markTo_len {zs : List Int} {j : Nat} (h : j ≤ zs.length) : (markTo zs j).length = zs.length := by unfold markTo; rw [List.length_append, marksF_len, List.length_drop]; omega
theorem markTo_zero (zs : List Int) : markTo zs 0 = zs := by unfold markTo; rfl
theorem markTo_end (zs : List Int) : markTo zs zs.length = marksF zs.length := by unfold markTo; simp
theorem markTo_succ {zs : List Int} {j : Nat} (h : j < zs.length) : (markTo zs j).set j (1 + (j : Int)) = markTo zs (j + 1) := by
  apply List.ext_getElem?
  intro i
  have e1 : marksF (j + 1) = marksF j ++ [1 + (j : Int)] := by unfold marksF; rw [List.range_succ, List.map_append]; rfl
  unfold markTo
  have hl := marksF_len j
  rw [e1, List.set_append, if_neg (by omega), hl, Nat.sub_self, List.append_assoc, List.drop_eq_getElem_cons h]
  rfl
end Go.Proofs.Ytdlbjmhjaljlfab
