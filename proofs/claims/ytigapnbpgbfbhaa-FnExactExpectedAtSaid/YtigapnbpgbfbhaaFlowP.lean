/- Water that runs down a channel (pure): what comes to each node. No condition but those stated. -/
import Derived.Test.YtigapnbpgbfbhaaGrB
import Derived.Test.YtigapnbpgbfbhaaGrA
namespace Go.Proofs.Ytigapnbpgbfbhaa
set_option linter.unusedVariables false

theorem set_self {zs : List Int} {i : Nat} {z : Int} (h : zs.getD i 0 = z) (hi : i < zs.length) : zs.set i z = zs := by
  apply List.ext_getElem?
  intro j
  rw [List.getElem?_set]
  by_cases e : i = j
  · subst e
    rw [if_pos rfl, if_pos hi, List.getElem?_eq_getElem hi]
    rw [List.getD_eq_getElem?_getD, List.getElem?_eq_getElem hi] at h
    rw [← h]; rfl
  · rw [if_neg e]
/-- what passes a node of what comes -/
def passV (x : Nd) (c : Int) : Int := if c ≤ x.2.2.1 then 0 else if x.2.2.2.1 < c - x.2.2.1 then x.2.2.2.1 else c - x.2.2.1
theorem pass_bd {x : Nd} {c : Int} (hr : 0 ≤ x.2.2.2.1) (hc : 0 ≤ c) (hl : 0 ≤ x.2.2.1) : 0 ≤ passV x c ∧ passV x c ≤ c ∧ passV x c ≤ x.2.2.2.1 := by
  unfold passV; split
  · exact ⟨Int.le_refl _, hc, hr⟩
  · split <;> constructor <;> omega
theorem pass_min {x : Nd} {c : Int} (hr : 0 ≤ x.2.2.2.1) (hc : 0 ≤ c) (hl : 0 ≤ x.2.2.1) : passV x c = min x.2.2.2.1 (c - min x.2.2.1 c) := by
  unfold passV; split
  · omega
  · split <;> omega
theorem pass_more {x : Nd} {c : Int} (hr : 0 ≤ x.2.2.2.1) (hl : 0 ≤ x.2.2.1) : passV x (c + 1) = passV x c ∨ passV x (c + 1) = passV x c + 1 := by
  unfold passV
  repeat' split
  all_goals omega
/-- the weights of nodes -/
def wk (ns : List Nd) (ks : List Int) : List Int := ks.map fun z => (ns.getD z.toNat nd0).2.1
theorem wk_len (ns : List Nd) (ks : List Int) : (wk ns ks).length = ks.length := by unfold wk; rw [List.length_map]
theorem wk_get (ns : List Nd) (ks : List Int) {i : Nat} (h : i < ks.length) : (wk ns ks).getD i 0 = (ns.getD (ks.getD i 0).toNat nd0).2.1 := by
  unfold wk
  have e : ks.getD i 0 = ks[i] := by rw [List.getD_eq_getElem?_getD, List.getElem?_eq_getElem h]; rfl
  rw [e, List.getD_eq_getElem?_getD, List.getElem?_map, List.getElem?_eq_getElem h]; rfl
def wts (ns : List Nd) (k : Int) : List Int := wk ns (kidsF ns k)
theorem wts_bd {ns : List Nd} (h : vnB ns = true) (k : Int) : ∀ z ∈ wts ns k, 0 ≤ z ∧ z ≤ 1000 := by
  intro z hz
  unfold wts wk at hz
  obtain ⟨y, hy, rfl⟩ := List.mem_map.1 hz
  obtain ⟨j, rfl, hj, _⟩ := kids_bd hy
  have := (vn_at h hj).1
  show 0 ≤ (ns.getD ((j : Int)).toNat nd0).2.1 ∧ _
  rw [show ((j : Int)).toNat = j from by omega]; exact this
theorem kids_len2 (ns : List Nd) (at_ : Int) : (kidsF ns at_).length ≤ ns.length := kidsTo_len ns at_ _
theorem wts_len {ns : List Nd} (h : vnB ns = true) (k : Int) : (wts ns k).length ≤ 12 := by
  unfold wts; rw [wk_len]; have := kids_len2 ns k; have := (vn_is h).2.1; omega
theorem wts_vw {ns : List Nd} (h : vnB ns = true) (k : Int) : vwB (wts ns k) = decide (0 < (wts ns k).sum) :=
  vw_sum ((allB_iff _ _).2 (wts_bd h k)) (wts_len h k)
theorem wts_pos {ns : List Nd} (h : vnB ns = true) (k : Int) : 0 ≤ (wts ns k).sum := list_nonneg (fun i hi => (wts_bd h k _ (getD_mem hi)).1)
theorem wts_zero {ns : List Nd} (h : vnB ns = true) (k : Int) : ((wts ns k).sum == 0) = !(vwB (wts ns k)) := by
  have := wts_pos h k
  rw [wts_vw h k]
  by_cases e : (wts ns k).sum = 0
  · rw [e]; rfl
  · rw [decide_eq_true (by omega), beq_eq_false_iff_ne.2 e]; rfl
/-- what the kids of a node get -/
def giveV (ns : List Nd) (k : Int) (p : Int) : List Int := if vwB (wts ns k) = true then sa 2 p (wts ns k) else []
theorem give_len (ns : List Nd) (k : Int) (p : Int) : (giveV ns k p).length ≤ (kidsF ns k).length := by
  unfold giveV; split
  · rw [sa_len]; unfold wts; rw [wk_len]; exact Nat.le_refl _
  · simp
/-- numbers that are stored at places -/
def putTo (cs ks vs : List Int) : Nat → List Int
  | 0 => cs
  | m + 1 => (putTo cs ks vs m).set (ks.getD m 0).toNat (vs.getD m 0)
theorem putTo_succ (cs ks vs : List Int) (m : Nat) : putTo cs ks vs (m + 1) = (putTo cs ks vs m).set (ks.getD m 0).toNat (vs.getD m 0) := rfl
theorem putTo_len (cs ks vs : List Int) : ∀ m, (putTo cs ks vs m).length = cs.length := by
  intro m
  induction m with
  | zero => rfl
  | succ m ih => rw [putTo_succ, List.length_set]; exact ih
theorem putTo_other {cs ks vs : List Int} {j : Nat} : ∀ m, (∀ i, i < m → (ks.getD i 0).toNat ≠ j) → (putTo cs ks vs m).getD j 0 = cs.getD j 0 := by
  intro m
  induction m with
  | zero => intro _; rfl
  | succ m ih =>
    intro h
    rw [putTo_succ]
    by_cases hl : (ks.getD m 0).toNat < (putTo cs ks vs m).length
    · rw [getD_setZ j _ hl, if_neg (fun c => h m (by omega) c.symm)]
      exact ih (fun i hi => h i (by omega))
    · rw [List.set_eq_of_length_le (by omega)]
      exact ih (fun i hi => h i (by omega))
theorem putTo_at {cs ks vs : List Int} (hd : ∀ i j, i < j → j < ks.length → (ks.getD i 0).toNat ≠ (ks.getD j 0).toNat) (hb : ∀ i, i < ks.length → (ks.getD i 0).toNat < cs.length) {i : Nat} : ∀ m, i < m → m ≤ ks.length → (putTo cs ks vs m).getD (ks.getD i 0).toNat 0 = vs.getD i 0 := by
  intro m
  induction m with
  | zero => intro h; omega
  | succ m ih =>
    intro him hm
    rw [putTo_succ, getD_setZ _ _ (by rw [putTo_len]; exact hb m (by omega))]
    by_cases e : i = m
    · subst e; rw [if_pos rfl]
    · rw [if_neg (hd i m (by omega) (by omega)), ih (by omega) (by omega)]
theorem putTo_zero {cs ks : List Int} : ∀ (m : Nat) (vs : List Int), (∀ i, vs.getD i 0 = 0) → (∀ i, i < m → (ks.getD i 0).toNat < cs.length ∧ cs.getD (ks.getD i 0).toNat 0 = 0) → putTo cs ks vs m = cs := by
  intro m
  induction m with
  | zero => intro _ _ _; rfl
  | succ m ih =>
    intro vs hv h
    rw [putTo_succ, ih vs hv (fun i hi => h i (by omega)), hv m]
    exact set_self (h m (by omega)).2 (h m (by omega)).1
theorem app_l {a b : List Int} {i : Nat} (h : i < a.length) : (a ++ b).getD i 0 = a.getD i 0 := by
  rw [List.getD_eq_getElem?_getD, List.getD_eq_getElem?_getD, List.getElem?_append_left h]
theorem app_r {a : List Int} {z : Int} : (a ++ [z]).getD a.length 0 = z := by
  rw [List.getD_eq_getElem?_getD, List.getElem?_append_right (Nat.le_refl _), Nat.sub_self]; rfl
/-- kids ascend -/
theorem kidsTo_asc (ns : List Nd) (at_ : Int) : ∀ k i j, i < j → j < (kidsTo ns at_ k).length → (kidsTo ns at_ k).getD i 0 < (kidsTo ns at_ k).getD j 0 := by
  intro k
  induction k with
  | zero => intro i j _ h; exact absurd h (Nat.not_lt_zero _)
  | succ k ih =>
    intro i j hij hj
    by_cases h : (ns.getD k nd0).1 = at_
    · rw [kidsTo_yes h] at hj ⊢
      rw [List.length_append] at hj
      have hj' : j < (kidsTo ns at_ k).length + 1 := hj
      by_cases e : j < (kidsTo ns at_ k).length
      · rw [app_l e, app_l (by omega)]
        exact ih i j hij e
      · have e2 : j = (kidsTo ns at_ k).length := by omega
        rw [app_l (by omega), e2, app_r]
        obtain ⟨m, hm, hmk, _⟩ := kidsTo_mem ns at_ k _ (getD_mem (zs := kidsTo ns at_ k) (k := i) (by omega))
        rw [hm]
        show (m : Int) < (k : Int)
        omega
    · rw [kidsTo_no h] at hj ⊢
      exact ih i j hij hj
theorem kid_at {ns : List Nd} {at_ : Int} {i : Nat} (h : i < (kidsF ns at_).length) : ∃ j : Nat, (kidsF ns at_).getD i 0 = (j : Int) ∧ j < ns.length ∧ (ns.getD j nd0).1 = at_ := kids_bd (getD_mem h)
theorem kid_ne {ns : List Nd} {at_ : Int} : ∀ i j, i < j → j < (kidsF ns at_).length → ((kidsF ns at_).getD i 0).toNat ≠ ((kidsF ns at_).getD j 0).toNat := fun i j hij hj => by
  have := kidsTo_asc ns at_ ns.length i j hij hj
  obtain ⟨a, ha, _⟩ := kid_at (ns := ns) (at_ := at_) (i := i) (by omega)
  obtain ⟨b, hb, _⟩ := kid_at hj
  unfold kidsF at *
  omega
theorem kid_pos {ns : List Nd} {at_ : Int} {j : Nat} (h : (ns.getD j nd0).1 = at_) (hj : j < ns.length) : ∃ i, i < (kidsF ns at_).length ∧ (kidsF ns at_).getD i 0 = (j : Int) := by
  obtain ⟨i, hi, e⟩ := List.getElem_of_mem (kidsTo_in h ns.length hj)
  exact ⟨i, hi, by unfold kidsF; rw [List.getD_eq_getElem?_getD, List.getElem?_eq_getElem hi, e]; rfl⟩
/-- what comes to the nodes after the first k nodes have passed on what they pass -/
def stepC (ns : List Nd) (cs : List Int) (k : Nat) : List Int := putTo cs (kidsF ns (k : Int)) (giveV ns (k : Int) (passV (ns.getD k nd0) (cs.getD k 0))) (giveV ns (k : Int) (passV (ns.getD k nd0) (cs.getD k 0))).length
def comeTo (ns : List Nd) (fl : Int) : Nat → List Int
  | 0 => (List.replicate ns.length 0).set 0 fl
  | k + 1 => stepC ns (comeTo ns fl k) k
theorem comeTo_succ (ns : List Nd) (fl : Int) (k : Nat) : comeTo ns fl (k + 1) = stepC ns (comeTo ns fl k) k := rfl
def comeF (ns : List Nd) (fl : Int) : List Int := comeTo ns fl ns.length
theorem comeTo_len (ns : List Nd) (fl : Int) : ∀ k, (comeTo ns fl k).length = ns.length := by
  intro k
  induction k with
  | zero => show ((List.replicate ns.length 0).set 0 fl).length = _; rw [List.length_set, List.length_replicate]
  | succ k ih => rw [comeTo_succ]; unfold stepC; rw [putTo_len]; exact ih
theorem comeTo_zero (ns : List Nd) (fl : Int) (j : Nat) (hn : 0 < ns.length) : (comeTo ns fl 0).getD j 0 = if j = 0 then fl else 0 := by
  show ((List.replicate ns.length 0).set 0 fl).getD j 0 = _
  rw [getD_setZ j fl (by rw [List.length_replicate]; exact hn)]
  by_cases e : j = 0
  · rw [if_pos e, if_pos e]
  · rw [if_neg e, if_neg e, List.getD_eq_getElem?_getD, List.getElem?_replicate]; split <;> rfl
theorem comeTo_stay {ns : List Nd} {fl : Int} {k j : Nat} (h : (ns.getD j nd0).1 ≠ (k : Int)) : (comeTo ns fl (k + 1)).getD j 0 = (comeTo ns fl k).getD j 0 := by
  rw [comeTo_succ]
  unfold stepC
  refine putTo_other _ (fun i hi c => ?_)
  have hl := give_len ns (k : Int) (passV (ns.getD k nd0) ((comeTo ns fl k).getD k 0))
  obtain ⟨q, hq, _, hp⟩ := kid_at (ns := ns) (at_ := (k : Int)) (i := i) (by omega)
  rw [hq] at c
  have : q = j := by omega
  rw [this] at hp
  exact h hp
theorem comeTo_late {ns : List Nd} {fl : Int} {j : Nat} : ∀ d k, (∀ m : Nat, k ≤ m → (ns.getD j nd0).1 ≠ (m : Int)) → (comeTo ns fl (k + d)).getD j 0 = (comeTo ns fl k).getD j 0 := by
  intro d
  induction d with
  | zero => intro k _; rfl
  | succ d ih =>
    intro k h
    show (comeTo ns fl ((k + d) + 1)).getD j 0 = _
    rw [comeTo_stay (h (k + d) (by omega)), ih k h]
theorem comeTo_early {ns : List Nd} {fl : Int} {j : Nat} : ∀ k, (∀ m : Nat, m < k → (ns.getD j nd0).1 ≠ (m : Int)) → (comeTo ns fl k).getD j 0 = (comeTo ns fl 0).getD j 0 := by
  intro k
  induction k with
  | zero => intro _; rfl
  | succ k ih => intro h; rw [comeTo_stay (h k (by omega)), ih (fun m hm => h m (by omega))]
/-- what comes to a node of a valid channel is known when its turn comes -/
theorem come_own {ns : List Nd} (hv : vnB ns = true) {fl : Int} {j : Nat} (hj : j < ns.length) : (comeF ns fl).getD j 0 = (comeTo ns fl j).getD j 0 := by
  have b := vn_parI hv hj
  unfold comeF
  rw [show ns.length = j + (ns.length - j) from by omega]
  exact comeTo_late _ _ (fun m hm c => by omega)
/-- what comes to the spring -/
theorem come_spring {ns : List Nd} (hv : vnB ns = true) {fl : Int} : (comeF ns fl).getD 0 0 = fl := by
  rw [come_own hv (vn_is hv).1, comeTo_zero ns fl 0 (vn_is hv).1]; rfl
theorem csB_pass {ns : List Nd} (hv : vnB ns = true) {k : Nat} (hk : k < ns.length) {c : Int} (hc : 0 ≤ c) (hw : vwB (wts ns (k : Int)) = true) : csB (passV (ns.getD k nd0) c) (wts ns (k : Int)) = true := by
  obtain ⟨_, b, d, _⟩ := vn_at hv hk
  have := pass_bd d.1 hc b.1
  rw [cs_is (by omega)]; exact hw
theorem comeTo_bd {ns : List Nd} (hv : vnB ns = true) {fl : Int} (hf : 0 ≤ fl ∧ fl ≤ 500) : ∀ k, k ≤ ns.length → ∀ j, 0 ≤ (comeTo ns fl k).getD j 0 ∧ (comeTo ns fl k).getD j 0 ≤ 500 := by
  intro k
  induction k with
  | zero =>
    intro _ j
    rw [comeTo_zero ns fl j (vn_is hv).1]
    split
    · exact hf
    · omega
  | succ k ih =>
    intro hk j
    have ih := ih (by omega)
    by_cases hp : j < ns.length ∧ (ns.getD j nd0).1 = (k : Int)
    · obtain ⟨i, hi, he⟩ := kid_pos hp.2 hp.1
      rw [comeTo_succ]
      unfold stepC
      by_cases hw : vwB (wts ns (k : Int)) = true
      · have hcs := csB_pass hv (k := k) (by omega) (ih k).1 hw
        have hg : giveV ns (k : Int) (passV (ns.getD k nd0) ((comeTo ns fl k).getD k 0)) = sa 2 (passV (ns.getD k nd0) ((comeTo ns fl k).getD k 0)) (wts ns (k : Int)) := if_pos hw
        have hlen : (sa 2 (passV (ns.getD k nd0) ((comeTo ns fl k).getD k 0)) (wts ns (k : Int))).length = (kidsF ns (k : Int)).length := by rw [sa_len]; unfold wts; rw [wk_len]
        rw [hg, hlen]
        have := putTo_at (cs := comeTo ns fl k) (vs := sa 2 (passV (ns.getD k nd0) ((comeTo ns fl k).getD k 0)) (wts ns (k : Int))) (kid_ne (ns := ns) (at_ := (k : Int))) (fun i hi => by obtain ⟨q, hq, hql, _⟩ := kid_at hi; rw [hq, comeTo_len]; omega) (i := i) _ hi (Nat.le_refl _)
        rw [he] at this
        rw [show ((j : Int)).toNat = j from by omega] at this
        rw [this]
        obtain ⟨_, _, hb⟩ := sa_facts hcs (step := 2) (by omega)
        have := hb i (by unfold wts; rw [wk_len]; exact hi)
        have := (cs_yes hcs).1
        omega
      · have hg : giveV ns (k : Int) (passV (ns.getD k nd0) ((comeTo ns fl k).getD k 0)) = [] := if_neg hw
        rw [hg]; exact ih j
    · by_cases hj : j < ns.length
      · rw [comeTo_stay (fun c => hp ⟨hj, c⟩)]; exact ih j
      · rw [List.getD_eq_getElem?_getD, List.getElem?_eq_none (by rw [comeTo_len]; omega)]
        exact ⟨Int.le_refl _, by show (0 : Int) ≤ 500; omega⟩
theorem come_bd {ns : List Nd} (hv : vnB ns = true) {fl : Int} (hf : 0 ≤ fl ∧ fl ≤ 500) (j : Nat) : 0 ≤ (comeF ns fl).getD j 0 ∧ (comeF ns fl).getD j 0 ≤ 500 := comeTo_bd hv hf ns.length (Nat.le_refl _) j
/-- what comes to a kid -/
theorem come_kid {ns : List Nd} (hv : vnB ns = true) {fl : Int} (hf : 0 ≤ fl ∧ fl ≤ 500) {k : Nat} (hk : k < ns.length) {i : Nat} (hi : i < (kidsF ns (k : Int)).length) :
    (comeF ns fl).getD ((kidsF ns (k : Int)).getD i 0).toNat 0 = if vwB (wts ns (k : Int)) = true then (sa 2 (passV (ns.getD k nd0) ((comeF ns fl).getD k 0)) (wts ns (k : Int))).getD i 0 else 0 := by
  obtain ⟨j, hj, hjl, hp⟩ := kid_at hi
  rw [hj, show ((j : Int)).toNat = j from by omega]
  have b := vn_parI hv hjl
  have h1 : (comeF ns fl).getD j 0 = (comeTo ns fl (k + 1)).getD j 0 := by
    unfold comeF
    rw [show ns.length = (k + 1) + (ns.length - (k + 1)) from by omega]
    exact comeTo_late _ _ (fun m hm c => by omega)
  rw [h1, come_own hv hk, comeTo_succ]
  unfold stepC
  by_cases hw : vwB (wts ns (k : Int)) = true
  · have hg : giveV ns (k : Int) (passV (ns.getD k nd0) ((comeTo ns fl k).getD k 0)) = sa 2 (passV (ns.getD k nd0) ((comeTo ns fl k).getD k 0)) (wts ns (k : Int)) := if_pos hw
    have hlen : (sa 2 (passV (ns.getD k nd0) ((comeTo ns fl k).getD k 0)) (wts ns (k : Int))).length = (kidsF ns (k : Int)).length := by rw [sa_len]; unfold wts; rw [wk_len]
    rw [if_pos hw, hg, hlen]
    have := putTo_at (cs := comeTo ns fl k) (vs := sa 2 (passV (ns.getD k nd0) ((comeTo ns fl k).getD k 0)) (wts ns (k : Int))) (kid_ne (ns := ns) (at_ := (k : Int))) (fun i hi => by obtain ⟨q, hq, hql, _⟩ := kid_at hi; rw [hq, comeTo_len]; omega) (i := i) _ hi (Nat.le_refl _)
    rw [hj] at this
    rw [show ((j : Int)).toNat = j from by omega] at this
    exact this
  · have hg : giveV ns (k : Int) (passV (ns.getD k nd0) ((comeTo ns fl k).getD k 0)) = [] := if_neg hw
    rw [if_neg hw, hg]
    show (comeTo ns fl k).getD j 0 = 0
    rw [comeTo_early k (fun m hm c => by omega), comeTo_zero ns fl j (by omega), if_neg (by omega)]
/-- a step that gives nothing, as one that gives 0 to each kid -/
theorem step_zero {ns : List Nd} (hv : vnB ns = true) {fl : Int} {k : Nat} (hk : k < ns.length) (hw : ¬ vwB (wts ns (k : Int)) = true) : putTo (comeTo ns fl k) (kidsF ns (k : Int)) (List.replicate (kidsF ns (k : Int)).length 0) (kidsF ns (k : Int)).length = comeTo ns fl (k + 1) := by
  rw [comeTo_succ]
  unfold stepC
  have hg : giveV ns (k : Int) (passV (ns.getD k nd0) ((comeTo ns fl k).getD k 0)) = [] := if_neg hw
  rw [hg]
  show _ = comeTo ns fl k
  refine putTo_zero _ _ (fun i => ?_) (fun i hi => ?_)
  · rw [List.getD_eq_getElem?_getD, List.getElem?_replicate]; split <;> rfl
  · obtain ⟨j, hj, hjl, hp⟩ := kid_at hi
    have b := vn_parI hv hjl
    rw [hj, show ((j : Int)).toNat = j from by omega, comeTo_len]
    refine ⟨hjl, ?_⟩
    rw [comeTo_early k (fun m hm c => by omega), comeTo_zero ns fl j (by omega), if_neg (by omega)]
theorem step_give {ns : List Nd} {fl : Int} {k : Nat} (hw : vwB (wts ns (k : Int)) = true) : putTo (comeTo ns fl k) (kidsF ns (k : Int)) (sa 2 (passV (ns.getD k nd0) ((comeTo ns fl k).getD k 0)) (wts ns (k : Int))) (kidsF ns (k : Int)).length = comeTo ns fl (k + 1) := by
  rw [comeTo_succ]
  unfold stepC
  have hg : giveV ns (k : Int) (passV (ns.getD k nd0) ((comeTo ns fl k).getD k 0)) = sa 2 (passV (ns.getD k nd0) ((comeTo ns fl k).getD k 0)) (wts ns (k : Int)) := if_pos hw
  rw [hg, sa_len]
  unfold wts; rw [wk_len]
def flB (ns : List Nd) (fl : Int) : Bool := vnB ns && (decide (0 ≤ fl) && decide (fl ≤ 500))
def flowV (ns : List Nd) (fl : Int) : List Int := if flB ns fl = true then comeF ns fl else []
theorem flow_no {ns : List Nd} {fl : Int} (h : flB ns fl = false) : flowV ns fl = [] := by unfold flowV; rw [h]; rfl
theorem flow_yes {ns : List Nd} {fl : Int} (h : flB ns fl = true) : flowV ns fl = comeF ns fl := by unfold flowV; rw [h]; rfl
theorem flB_is {ns : List Nd} {fl : Int} (h : flB ns fl = true) : vnB ns = true ∧ 0 ≤ fl ∧ fl ≤ 500 := by
  unfold flB at h; simp only [Bool.and_eq_true, decide_eq_true_eq] at h; exact h
theorem flB_no {ns : List Nd} {fl : Int} (h : vnB ns = false ∨ (decide (0 ≤ fl) && decide (fl ≤ 500)) = false) : flB ns fl = false := by
  unfold flB; rcases h with h | h <;> rw [h] <;> simp
/-- what passes each node -/
def passF (ns : List Nd) (fl : Int) : List Int := (List.range ns.length).map fun i => passV (ns.getD i nd0) ((comeF ns fl).getD i 0)
theorem passF_len (ns : List Nd) (fl : Int) : (passF ns fl).length = ns.length := by unfold passF; simp
theorem passF_get (ns : List Nd) (fl : Int) {i : Nat} (h : i < ns.length) : (passF ns fl).getD i 0 = passV (ns.getD i nd0) ((comeF ns fl).getD i 0) := by
  unfold passF
  rw [List.getD_eq_getElem?_getD, List.getElem?_map, List.getElem?_range h]; rfl
def passedV (ns : List Nd) (fl : Int) : List Int := if flB ns fl = true then passF ns fl else []
theorem passed_no {ns : List Nd} {fl : Int} (h : flB ns fl = false) : passedV ns fl = [] := by unfold passedV; rw [h]; rfl
theorem passed_yes {ns : List Nd} {fl : Int} (h : flB ns fl = true) : passedV ns fl = passF ns fl := by unfold passedV; rw [h]; rfl
theorem passF_bd {ns : List Nd} (hv : vnB ns = true) {fl : Int} (hf : 0 ≤ fl ∧ fl ≤ 500) {i : Nat} (h : i < ns.length) : 0 ≤ (passF ns fl).getD i 0 ∧ (passF ns fl).getD i 0 ≤ (comeF ns fl).getD i 0 ∧ (passF ns fl).getD i 0 ≤ 500 ∧ (passF ns fl).getD i 0 ≤ (ns.getD i nd0).2.2.2.1 := by
  rw [passF_get ns fl h]
  obtain ⟨_, b, d, _⟩ := vn_at hv h
  have a := come_bd hv hf i
  have := pass_bd d.1 a.1 b.1
  omega
end Go.Proofs.Ytigapnbpgbfbhaa
