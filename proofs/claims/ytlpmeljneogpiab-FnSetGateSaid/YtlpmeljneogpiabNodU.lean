/- Gates that are set (pure). No condition but those stated. -/
import Derived.Test.YtlpmeljneogpiabNodR
import Derived.Test.YtlpmeljneogpiabNodG
namespace Go.Proofs.Ytlpmeljneogpiab
set_option linter.unusedVariables false

theorem sgL_len (ns : List Nd) (i w : Int) : (sgL ns i w).length = ns.length := by unfold sgL; rw [List.length_set]
theorem sgL_get {ns : List Nd} {k : Nat} (hk : k < ns.length) (w : Int) (j : Nat) : (sgL ns (k : Int) w).getD j nd0 = if j = k then ((ns.getD k nd0).1, w, (ns.getD k nd0).2.2) else ns.getD j nd0 := by
  unfold sgL
  rw [show ((k : Int)).toNat = k from by omega]
  rw [List.getD_eq_getElem?_getD, List.getElem?_set]
  by_cases e : k = j
  · subst e; rw [if_pos rfl, if_pos hk, if_pos rfl]; rfl
  · rw [if_neg e, if_neg (fun c => e c.symm), List.getD_eq_getElem?_getD]
theorem sgL_par {ns : List Nd} {k : Nat} (hk : k < ns.length) (w : Int) (j : Nat) : ((sgL ns (k : Int) w).getD j nd0).1 = (ns.getD j nd0).1 := by
  rw [sgL_get hk]; split
  · rename_i e; rw [e]
  · rfl
theorem vn_gate {ns : List Nd} (hv : vnB ns = true) {k : Nat} (hk : k < ns.length) {w : Int} (h0 : 0 ≤ w) (h1 : w ≤ 1000) : vnB (sgL ns (k : Int) w) = true := by
  obtain ⟨a, b, c⟩ := vn_is hv
  refine vn_yes (by rw [sgL_len]; exact a) (by rw [sgL_len]; exact b) (fun j hj => ?_)
  rw [sgL_len] at hj
  have hc := c j hj
  unfold okN at hc ⊢
  rw [sgL_par hk]
  rw [Bool.and_eq_true] at hc ⊢
  refine ⟨hc.1, ?_⟩
  rw [mB_iff, sgL_get hk]
  have hm := (mB_iff _).1 hc.2
  split
  · rename_i e; subst e; exact ⟨⟨h0, h1⟩, hm.2⟩
  · exact hm
theorem sg_yes {ns : List Nd} (hv : vnB ns = true) {k : Nat} (hk : k < ns.length) {w : Int} (h0 : 0 ≤ w) (h1 : w ≤ 1000) : sgB ns (k : Int) w = true := by
  unfold sgB; rw [hv, inN_is hk, decide_eq_true h0, decide_eq_true h1]; rfl
theorem sgB_is {ns : List Nd} {i w : Int} (h : sgB ns i w = true) : vnB ns = true ∧ inN ns.length i = true ∧ 0 ≤ w ∧ w ≤ 1000 := by
  unfold sgB at h; simp only [Bool.and_eq_true, decide_eq_true_eq] at h; exact ⟨h.1.1, h.1.2, h.2⟩
theorem nd_ext {a b : List Nd} (hl : a.length = b.length) (h : ∀ j, j < a.length → a.getD j nd0 = b.getD j nd0) : a = b := by
  apply List.ext_getElem hl
  intro i h1 h2
  have := h i h1
  rwa [List.getD_eq_getElem?_getD, List.getElem?_eq_getElem h1, List.getD_eq_getElem?_getD, List.getElem?_eq_getElem h2] at this
theorem sg_back {ns : List Nd} {k : Nat} (hk : k < ns.length) (w : Int) : sgL (sgL ns (k : Int) w) (k : Int) (ns.getD k nd0).2.1 = ns := by
  refine nd_ext (by rw [sgL_len, sgL_len]) (fun j hj => ?_)
  rw [sgL_get (by rw [sgL_len]; exact hk)]
  by_cases e : j = k
  · subst e; rw [if_pos rfl, sgL_get hk, if_pos rfl]
  · rw [if_neg e, sgL_get hk, if_neg e]
theorem kids_gate {ns : List Nd} {k : Nat} (hk : k < ns.length) (w : Int) (at_ : Int) : kidsF (sgL ns (k : Int) w) at_ = kidsF ns at_ := by
  unfold kidsF
  rw [sgL_len]
  have : ∀ m, kidsTo (sgL ns (k : Int) w) at_ m = kidsTo ns at_ m := by
    intro m
    induction m with
    | zero => rfl
    | succ m ih =>
      by_cases e : (ns.getD m nd0).1 = at_
      · rw [kidsTo_yes e, kidsTo_yes (by rw [sgL_par hk]; exact e), ih]
      · rw [kidsTo_no e, kidsTo_no (by rw [sgL_par hk]; exact e), ih]
  exact this _
/-- a weight of 0 gets nothing -/
theorem sa_zero {n : Int} {ws : List Int} (hcs : csB n ws = true) {i : Nat} (hi : i < ws.length) (h : ws.getD i 0 = 0) : (sa 2 n ws).getD i 0 = 0 := by
  obtain ⟨_, E, B⟩ := sa_facts hcs (step := 2) (by omega)
  have b := B i hi
  by_cases c : (sa 2 n ws).getD i 0 = 0
  · exact c
  · obtain ⟨q, hq, hp⟩ := pos_some (cs_yes hcs).2
    have e := E q i hq hi (by omega)
    rw [h, Int.zero_mul] at e
    have : 0 < ws.getD q 0 * (2 * ((sa 2 n ws).getD i 0 - 1) + 1) := Int.mul_pos hp (by omega)
    omega
/-- P61 -/
theorem shut_zero {ns : List Nd} (hv : vnB ns = true) {k : Nat} (hk : k < ns.length) (h0 : 0 < k) {fl : Int} (hf : 0 ≤ fl ∧ fl ≤ 500) : (comeF (sgL ns (k : Int) 0) fl).getD k 0 = 0 := by
  have hv2 := vn_gate hv hk (w := 0) (by omega) (by omega)
  have hk2 : k < (sgL ns (k : Int) 0).length := by rw [sgL_len]; exact hk
  obtain ⟨p0, p1⟩ := vn_par hv2 hk2 h0
  obtain ⟨p, hp⟩ : ∃ p : Nat, ((sgL ns (k : Int) 0).getD k nd0).1 = (p : Int) := ⟨((sgL ns (k : Int) 0).getD k nd0).1.toNat, by omega⟩
  obtain ⟨i, hi, he⟩ := kid_pos hp hk2
  have a := come_kid hv2 hf (k := p) (by omega) hi
  rw [he, show ((k : Int)).toNat = k from by omega] at a
  rw [a]
  split
  · rename_i hw
    have hcs := csB_pass hv2 (k := p) (by omega) (come_bd hv2 hf p).1 hw
    have hil : i < (wts (sgL ns (k : Int) 0) (p : Int)).length := by unfold wts; rw [wk_len]; exact hi
    refine sa_zero hcs hil ?_
    unfold wts
    rw [wk_get _ _ hi, he, show ((k : Int)).toNat = k from by omega, sgL_get hk, if_pos rfl]
  · rfl
end Go.Proofs.Ytlpmeljneogpiab
