/- Contracts and facts of functions of this program, in build order. Conditions: those stated in each. -/
import Derived.Test.YtaehemmjemhgpabGreatZAG1
import Derived.Test.YtaehemmjemhgpabGreatZAG0
import Derived.BigRegion
import Derived.Deep.RegionHeld3
import Derived.Deep.DeepCutAuto
import Derived.Maps.AppendAt
import Derived.Deep.RegionWith
import Derived.Deep.QuietTactic
import Derived.BigQuiet
import Derived.RegionTactic
import Derived.Deep.AppendLies
set_option maxRecDepth 100000
set_option maxHeartbeats 16000000
namespace Go.Proofs.YtaehemmjemhgpabGreat
open Go.RowKit
set_option linter.unusedSimpArgs false
set_option linter.unusedVariables false
theorem set_self {zs : List Int} {i : Nat} {z : Int} (h : zs.getD i 0 = z) (hi : i < zs.length) : zs.set i z = zs := by
 apply List.ext_getElem?
 intro j; rw [List.getElem?_set]
 by_cases e : i = j
 ·subst e
  rw [if_pos rfl, if_pos hi, List.getElem?_eq_getElem hi]; rw [List.getD_eq_getElem?_getD, List.getElem?_eq_getElem hi] at h; rw [← h]; rfl
 ·rw [if_neg e]
def jx0 (x : Nd) (c : Int) : Int := if c ≤ x.2.2.1 then 0 else if x.2.2.2.1 < c - x.2.2.1 then x.2.2.2.1 else c - x.2.2.1
theorem pass_bd {x : Nd} {c : Int} (hr : 0 ≤ x.2.2.2.1) (hc : 0 ≤ c) (hl : 0 ≤ x.2.2.1) : 0 ≤ jx0 x c ∧ jx0 x c ≤ c ∧ jx0 x c ≤ x.2.2.2.1 := by
 unfold jx0; split
 ·exact ⟨Int.le_refl _, hc, hr⟩
 ·split <;> constructor <;> omega
theorem pass_min {x : Nd} {c : Int} (hr : 0 ≤ x.2.2.2.1) (hc : 0 ≤ c) (hl : 0 ≤ x.2.2.1) : jx0 x c = min x.2.2.2.1 (c - min x.2.2.1 c) := by
 unfold jx0; split
 ·omega
 ·split <;> omega
def wk (ns : List Nd) (ks : List Int) : List Int := ks.map fun z => (ns.getD z.toNat nd0).2.1
theorem wk_len (ns : List Nd) (ks : List Int) : (wk ns ks).length = ks.length := by unfold wk; rw [List.length_map]
theorem wk_get (ns : List Nd) (ks : List Int) {i : Nat} (h : i < ks.length) : (wk ns ks).getD i 0 = (ns.getD (ks.getD i 0).toNat nd0).2.1 := by
 unfold wk
 have e : ks.getD i 0 = ks[i] := by rw [List.getD_eq_getElem?_getD, List.getElem?_eq_getElem h]; rfl
 rw [e, List.getD_eq_getElem?_getD, List.getElem?_map, List.getElem?_eq_getElem h]; rfl
def wts (ns : List Nd) (k : Int) : List Int := wk ns (jz7 ns k)
theorem wts_bd {ns : List Nd} (h : vnB ns = true) (k : Int) : ∀ z ∈ wts ns k, 0 ≤ z ∧ z ≤ 1000 := by
 intro z hz; unfold wts wk at hz; obtain ⟨y, hy, rfl⟩ := List.mem_map.1 hz; obtain ⟨j, rfl, hj, _⟩ := kids_bd hy; have := (vn_at h hj).1
 show 0 ≤ (ns.getD ((j : Int)).toNat nd0).2.1 ∧ _
 rw [show ((j : Int)).toNat = j from by omega]; exact this
theorem kids_len2 (ns : List Nd) (at_ : Int) : (jz7 ns at_).length ≤ ns.length := kidsTo_len ns at_ _
theorem wts_len {ns : List Nd} (h : vnB ns = true) (k : Int) : (wts ns k).length ≤ 12 := by
 unfold wts; rw [wk_len]; have := kids_len2 ns k; have := (vn_is h).2.1; omega
theorem wts_vw {ns : List Nd} (h : vnB ns = true) (k : Int) : vwB (wts ns k) = decide (0 < (wts ns k).sum) :=
 vw_sum ((allB_iff _ _).2 (wts_bd h k)) (wts_len h k)
theorem wts_pos {ns : List Nd} (h : vnB ns = true) (k : Int) : 0 ≤ (wts ns k).sum := list_nonneg (fun i hi => (wts_bd h k _ (jj7 hi)).1)
theorem wts_zero {ns : List Nd} (h : vnB ns = true) (k : Int) : ((wts ns k).sum == 0) = !(vwB (wts ns k)) := by
 have := wts_pos h k; rw [wts_vw h k]
 by_cases e : (wts ns k).sum = 0
 ·rw [e]; rfl
 ·rw [decide_eq_true (by omega), beq_eq_false_iff_ne.2 e]; rfl
def giveV (ns : List Nd) (k : Int) (p : Int) : List Int := if vwB (wts ns k) = true then sa 2 p (wts ns k) else []
theorem give_len (ns : List Nd) (k : Int) (p : Int) : (giveV ns k p).length ≤ (jz7 ns k).length := by
 unfold giveV; split
 ·rw [sa_len]; unfold wts; rw [wk_len]; exact Nat.le_refl _
 ·simp
def putTo (cs ks vs : List Int) : Nat → List Int
 | 0 => cs
 | m + 1 => (putTo cs ks vs m).set (ks.getD m 0).toNat (vs.getD m 0)
theorem putTo_succ (cs ks vs : List Int) (m : Nat) : putTo cs ks vs (m + 1) = (putTo cs ks vs m).set (ks.getD m 0).toNat (vs.getD m 0) := rfl
theorem putTo_len (cs ks vs : List Int) : ∀ m, (putTo cs ks vs m).length = cs.length := by
 intro m
 induction m with
 | zero => rfl
 | succ m ih => rw [putTo_succ, List.length_set]; exact ih
theorem putTo_other {cs ks vs : List Int} {j : Nat} : ∀ m, (∀ i, i < m → (ks.getD i 0).toNat ≠ j) → (putTo cs ks vs m).getD j 0 = cs.getD j 0 := by
  intro m
  induction m with
  | zero => intro _; rfl
  | succ m ih =>
    intro h; rw [putTo_succ]
    by_cases hl : (ks.getD m 0).toNat < (putTo cs ks vs m).length
    · rw [getD_setZ j _ hl, if_neg (fun c => h m (by omega) c.symm)]
      exact ih (fun i hi => h i (by omega))
    · rw [List.set_eq_of_length_le (by omega)]
      exact ih (fun i hi => h i (by omega))
theorem putTo_at {cs ks vs : List Int} (hd : ∀ i j, i < j → j < ks.length → (ks.getD i 0).toNat ≠ (ks.getD j 0).toNat) (hb : ∀ i, i < ks.length → (ks.getD i 0).toNat < cs.length) {i : Nat} : ∀ m, i < m → m ≤ ks.length → (putTo cs ks vs m).getD (ks.getD i 0).toNat 0 = vs.getD i 0 := by
  intro m
  induction m with
  | zero => intro h; omega
  | succ m ih =>
    intro him hm; rw [putTo_succ, getD_setZ _ _ (by rw [putTo_len]; exact hb m (by omega))]
    by_cases e : i = m
    · subst e; rw [if_pos rfl]
    · rw [if_neg (hd i m (by omega) (by omega)), ih (by omega) (by omega)]
theorem putTo_zero {cs ks : List Int} : ∀ (m : Nat) (vs : List Int), (∀ i, vs.getD i 0 = 0) → (∀ i, i < m → (ks.getD i 0).toNat < cs.length ∧ cs.getD (ks.getD i 0).toNat 0 = 0) → putTo cs ks vs m = cs := by
  intro m
  induction m with
  | zero => intro _ _ _; rfl
  | succ m ih =>
    intro vs hv h; rw [putTo_succ, ih vs hv (fun i hi => h i (by omega)), hv m]; exact set_self (h m (by omega)).2 (h m (by omega)).1
theorem app_l {a b : List Int} {i : Nat} (h : i < a.length) : (a ++ b).getD i 0 = a.getD i 0 := by
 rw [List.getD_eq_getElem?_getD, List.getD_eq_getElem?_getD, List.getElem?_append_left h]
theorem app_r {a : List Int} {z : Int} : (a ++ [z]).getD a.length 0 = z := by
 rw [List.getD_eq_getElem?_getD, List.getElem?_append_right (Nat.le_refl _), Nat.sub_self]; rfl
theorem kidsTo_asc (ns : List Nd) (at_ : Int) : ∀ k i j, i < j → j < (jx7 ns at_ k).length → (jx7 ns at_ k).getD i 0 < (jx7 ns at_ k).getD j 0 := by
  intro k
  induction k with
  | zero => intro i j _ h; exact absurd h (Nat.not_lt_zero _)
  | succ k ih =>
    intro i j hij hj
    by_cases h : (ns.getD k nd0).1 = at_
    · rw [jva h] at hj ⊢
      rw [List.length_append] at hj; have hj' : j < (jx7 ns at_ k).length + 1 := hj
      by_cases e : j < (jx7 ns at_ k).length
      · rw [app_l e, app_l (by omega)]
        exact ih i j hij e
      · have e2 : j = (jx7 ns at_ k).length := by omega
        rw [app_l (by omega), e2, app_r]; obtain ⟨m, hm, hmk, _⟩ := kidsTo_mem ns at_ k _ (jj7 (zs := jx7 ns at_ k) (k := i) (by omega)); rw [hm]
        show (m : Int) < (k : Int)
        omega
    · rw [kidsTo_no h] at hj ⊢
      exact ih i j hij hj
theorem kid_at {ns : List Nd} {at_ : Int} {i : Nat} (h : i < (jz7 ns at_).length) : ∃ j : Nat, (jz7 ns at_).getD i 0 = (j : Int) ∧ j < ns.length ∧ (ns.getD j nd0).1 = at_ := kids_bd (jj7 h)
theorem kid_ne {ns : List Nd} {at_ : Int} : ∀ i j, i < j → j < (jz7 ns at_).length → ((jz7 ns at_).getD i 0).toNat ≠ ((jz7 ns at_).getD j 0).toNat := fun i j hij hj => by
 have := kidsTo_asc ns at_ ns.length i j hij hj
 obtain ⟨a, ha, _⟩ := kid_at (ns := ns) (at_ := at_) (i := i) (by omega)
 obtain ⟨b, hb, _⟩ := kid_at hj; unfold jz7 at *
 omega
theorem kid_pos {ns : List Nd} {at_ : Int} {j : Nat} (h : (ns.getD j nd0).1 = at_) (hj : j < ns.length) : ∃ i, i < (jz7 ns at_).length ∧ (jz7 ns at_).getD i 0 = (j : Int) := by
 obtain ⟨i, hi, e⟩ := List.getElem_of_mem (kidsTo_in h ns.length hj); exact ⟨i, hi, by unfold jz7; rw [List.getD_eq_getElem?_getD, List.getElem?_eq_getElem hi, e]; rfl⟩
def stepC (ns : List Nd) (cs : List Int) (k : Nat) : List Int := putTo cs (jz7 ns (k : Int)) (giveV ns (k : Int) (jx0 (ns.getD k nd0) (cs.getD k 0))) (giveV ns (k : Int) (jx0 (ns.getD k nd0) (cs.getD k 0))).length
def jz4 (ns : List Nd) (fl : Int) : Nat → List Int
 | 0 => (List.replicate ns.length 0).set 0 fl
 | k + 1 => stepC ns (jz4 ns fl k) k
theorem jv8 (ns : List Nd) (fl : Int) (k : Nat) : jz4 ns fl (k + 1) = stepC ns (jz4 ns fl k) k := rfl
def jj2 (ns : List Nd) (fl : Int) : List Int := jz4 ns fl ns.length
theorem jxf (ns : List Nd) (fl : Int) : ∀ k, (jz4 ns fl k).length = ns.length := by
 intro k
 induction k with
 | zero => show ((List.replicate ns.length 0).set 0 fl).length = _; rw [List.length_set, List.length_replicate]
 | succ k ih => rw [jv8]; unfold stepC; rw [putTo_len]; exact ih
theorem comeTo_zero (ns : List Nd) (fl : Int) (j : Nat) (hn : 0 < ns.length) : (jz4 ns fl 0).getD j 0 = if j = 0 then fl else 0 := by
 show ((List.replicate ns.length 0).set 0 fl).getD j 0 = _
 rw [getD_setZ j fl (by rw [List.length_replicate]; exact hn)]
 by_cases e : j = 0
 ·rw [if_pos e, if_pos e]
 ·rw [if_neg e, if_neg e, List.getD_eq_getElem?_getD, List.getElem?_replicate]; split <;> rfl
theorem comeTo_stay {ns : List Nd} {fl : Int} {k j : Nat} (h : (ns.getD j nd0).1 ≠ (k : Int)) : (jz4 ns fl (k + 1)).getD j 0 = (jz4 ns fl k).getD j 0 := by
 rw [jv8]; unfold stepC; refine putTo_other _ (fun i hi c => ?_); have hl := give_len ns (k : Int) (jx0 (ns.getD k nd0) ((jz4 ns fl k).getD k 0))
 obtain ⟨q, hq, _, hp⟩ := kid_at (ns := ns) (at_ := (k : Int)) (i := i) (by omega)
 rw [hq] at c
 have : q = j := by omega
 rw [this] at hp; exact h hp
theorem comeTo_late {ns : List Nd} {fl : Int} {j : Nat} : ∀ d k, (∀ m : Nat, k ≤ m → (ns.getD j nd0).1 ≠ (m : Int)) → (jz4 ns fl (k + d)).getD j 0 = (jz4 ns fl k).getD j 0 := by
  intro d
  induction d with
  | zero => intro k _; rfl
  | succ d ih =>
    intro k h
    show (jz4 ns fl ((k + d) + 1)).getD j 0 = _
    rw [comeTo_stay (h (k + d) (by omega)), ih k h]
theorem comeTo_early {ns : List Nd} {fl : Int} {j : Nat} : ∀ k, (∀ m : Nat, m < k → (ns.getD j nd0).1 ≠ (m : Int)) → (jz4 ns fl k).getD j 0 = (jz4 ns fl 0).getD j 0 := by
 intro k
 induction k with
 | zero => intro _; rfl
 | succ k ih => intro h; rw [comeTo_stay (h k (by omega)), ih (fun m hm => h m (by omega))]
theorem come_own {ns : List Nd} (hv : vnB ns = true) {fl : Int} {j : Nat} (hj : j < ns.length) : (jj2 ns fl).getD j 0 = (jz4 ns fl j).getD j 0 := by
 have b := vn_parI hv hj; unfold jj2; rw [show ns.length = j + (ns.length - j) from by omega]; exact comeTo_late _ _ (fun m hm c => by omega)
theorem come_spring {ns : List Nd} (hv : vnB ns = true) {fl : Int} : (jj2 ns fl).getD 0 0 = fl := by
 rw [come_own hv (vn_is hv).1, comeTo_zero ns fl 0 (vn_is hv).1]; rfl
theorem csB_pass {ns : List Nd} (hv : vnB ns = true) {k : Nat} (hk : k < ns.length) {c : Int} (hc : 0 ≤ c) (hw : vwB (wts ns (k : Int)) = true) : csB (jx0 (ns.getD k nd0) c) (wts ns (k : Int)) = true := by
 obtain ⟨_, b, d, _⟩ := vn_at hv hk; have := pass_bd d.1 hc b.1; rw [cs_is (by omega)]; exact hw
theorem comeTo_bd {ns : List Nd} (hv : vnB ns = true) {fl : Int} (hf : 0 ≤ fl ∧ fl ≤ 500) : ∀ k, k ≤ ns.length → ∀ j, 0 ≤ (jz4 ns fl k).getD j 0 ∧ (jz4 ns fl k).getD j 0 ≤ 500 := by
  intro k
  induction k with
  | zero =>
    intro _ j; rw [comeTo_zero ns fl j (vn_is hv).1]
    split
    · exact hf
    · omega
  | succ k ih =>
    intro hk j; have ih := ih (by omega)
    by_cases hp : j < ns.length ∧ (ns.getD j nd0).1 = (k : Int)
    · obtain ⟨i, hi, he⟩ := kid_pos hp.2 hp.1
      rw [jv8]; unfold stepC
      by_cases hw : vwB (wts ns (k : Int)) = true
      · have hcs := csB_pass hv (k := k) (by omega) (ih k).1 hw
        have hg : giveV ns (k : Int) (jx0 (ns.getD k nd0) ((jz4 ns fl k).getD k 0)) = sa 2 (jx0 (ns.getD k nd0) ((jz4 ns fl k).getD k 0)) (wts ns (k : Int)) := if_pos hw
        have hlen : (sa 2 (jx0 (ns.getD k nd0) ((jz4 ns fl k).getD k 0)) (wts ns (k : Int))).length = (jz7 ns (k : Int)).length := by rw [sa_len]; unfold wts; rw [wk_len]
        rw [hg, hlen]; have := putTo_at (cs := jz4 ns fl k) (vs := sa 2 (jx0 (ns.getD k nd0) ((jz4 ns fl k).getD k 0)) (wts ns (k : Int))) (kid_ne (ns := ns) (at_ := (k : Int))) (fun i hi => by obtain ⟨q, hq, hql, _⟩ := kid_at hi; rw [hq, jxf]; omega) (i := i) _ hi (Nat.le_refl _); rw [he] at this; rw [show ((j : Int)).toNat = j from by omega] at this; rw [this]; obtain ⟨_, _, hb⟩ := sa_facts hcs (step := 2) (by omega); have := hb i (by unfold wts; rw [wk_len]; exact hi); have := (jvb hcs).1
        omega
      · have hg : giveV ns (k : Int) (jx0 (ns.getD k nd0) ((jz4 ns fl k).getD k 0)) = [] := if_neg hw
        rw [hg]; exact ih j
    · by_cases hj : j < ns.length
      · rw [comeTo_stay (fun c => hp ⟨hj, c⟩)]; exact ih j
      · rw [List.getD_eq_getElem?_getD, List.getElem?_eq_none (by rw [jxf]; omega)]
        exact ⟨Int.le_refl _, by show (0 : Int) ≤ 500; omega⟩
theorem come_bd {ns : List Nd} (hv : vnB ns = true) {fl : Int} (hf : 0 ≤ fl ∧ fl ≤ 500) (j : Nat) : 0 ≤ (jj2 ns fl).getD j 0 ∧ (jj2 ns fl).getD j 0 ≤ 500 := comeTo_bd hv hf ns.length (Nat.le_refl _) j
theorem come_kid {ns : List Nd} (hv : vnB ns = true) {fl : Int} (hf : 0 ≤ fl ∧ fl ≤ 500) {k : Nat} (hk : k < ns.length) {i : Nat} (hi : i < (jz7 ns (k : Int)).length) :
  (jj2 ns fl).getD ((jz7 ns (k : Int)).getD i 0).toNat 0 = if vwB (wts ns (k : Int)) = true then (sa 2 (jx0 (ns.getD k nd0) ((jj2 ns fl).getD k 0)) (wts ns (k : Int))).getD i 0 else 0 := by
 obtain ⟨j, hj, hjl, hp⟩ := kid_at hi; rw [hj, show ((j : Int)).toNat = j from by omega]; have b := vn_parI hv hjl
 have h1 : (jj2 ns fl).getD j 0 = (jz4 ns fl (k + 1)).getD j 0 := by
  unfold jj2; rw [show ns.length = (k + 1) + (ns.length - (k + 1)) from by omega]; exact comeTo_late _ _ (fun m hm c => by omega)
 rw [h1, come_own hv hk, jv8]; unfold stepC
 by_cases hw : vwB (wts ns (k : Int)) = true
 ·have hg : giveV ns (k : Int) (jx0 (ns.getD k nd0) ((jz4 ns fl k).getD k 0)) = sa 2 (jx0 (ns.getD k nd0) ((jz4 ns fl k).getD k 0)) (wts ns (k : Int)) := if_pos hw
  have hlen : (sa 2 (jx0 (ns.getD k nd0) ((jz4 ns fl k).getD k 0)) (wts ns (k : Int))).length = (jz7 ns (k : Int)).length := by rw [sa_len]; unfold wts; rw [wk_len]
  rw [if_pos hw, hg, hlen]; have := putTo_at (cs := jz4 ns fl k) (vs := sa 2 (jx0 (ns.getD k nd0) ((jz4 ns fl k).getD k 0)) (wts ns (k : Int))) (kid_ne (ns := ns) (at_ := (k : Int))) (fun i hi => by obtain ⟨q, hq, hql, _⟩ := kid_at hi; rw [hq, jxf]; omega) (i := i) _ hi (Nat.le_refl _); rw [hj] at this; rw [show ((j : Int)).toNat = j from by omega] at this; exact this
 ·have hg : giveV ns (k : Int) (jx0 (ns.getD k nd0) ((jz4 ns fl k).getD k 0)) = [] := if_neg hw
  rw [if_neg hw, hg]
  show (jz4 ns fl k).getD j 0 = 0
  rw [comeTo_early k (fun m hm c => by omega), comeTo_zero ns fl j (by omega), if_neg (by omega)]
theorem step_zero {ns : List Nd} (hv : vnB ns = true) {fl : Int} {k : Nat} (hk : k < ns.length) (hw : ¬ vwB (wts ns (k : Int)) = true) : putTo (jz4 ns fl k) (jz7 ns (k : Int)) (List.replicate (jz7 ns (k : Int)).length 0) (jz7 ns (k : Int)).length = jz4 ns fl (k + 1) := by
 rw [jv8]; unfold stepC; have hg : giveV ns (k : Int) (jx0 (ns.getD k nd0) ((jz4 ns fl k).getD k 0)) = [] := if_neg hw; rw [hg]
 show _ = jz4 ns fl k
 refine putTo_zero _ _ (fun i => ?_) (fun i hi => ?_)
 ·rw [List.getD_eq_getElem?_getD, List.getElem?_replicate]; split <;> rfl
 ·obtain ⟨j, hj, hjl, hp⟩ := kid_at hi
  have b := vn_parI hv hjl; rw [hj, show ((j : Int)).toNat = j from by omega, jxf]; refine ⟨hjl, ?_⟩; rw [comeTo_early k (fun m hm c => by omega), comeTo_zero ns fl j (by omega), if_neg (by omega)]
theorem step_give {ns : List Nd} {fl : Int} {k : Nat} (hw : vwB (wts ns (k : Int)) = true) : putTo (jz4 ns fl k) (jz7 ns (k : Int)) (sa 2 (jx0 (ns.getD k nd0) ((jz4 ns fl k).getD k 0)) (wts ns (k : Int))) (jz7 ns (k : Int)).length = jz4 ns fl (k + 1) := by
 rw [jv8]; unfold stepC; have hg : giveV ns (k : Int) (jx0 (ns.getD k nd0) ((jz4 ns fl k).getD k 0)) = sa 2 (jx0 (ns.getD k nd0) ((jz4 ns fl k).getD k 0)) (wts ns (k : Int)) := if_pos hw; rw [hg, sa_len]; unfold wts; rw [wk_len]
def flB (ns : List Nd) (fl : Int) : Bool := vnB ns && (decide (0 ≤ fl) && decide (fl ≤ 500))
def flowV (ns : List Nd) (fl : Int) : List Int := if flB ns fl = true then jj2 ns fl else []
theorem flow_no {ns : List Nd} {fl : Int} (h : flB ns fl = false) : flowV ns fl = [] := by unfold flowV; rw [h]; rfl
theorem flow_yes {ns : List Nd} {fl : Int} (h : flB ns fl = true) : flowV ns fl = jj2 ns fl := by unfold flowV; rw [h]; rfl
theorem flB_is {ns : List Nd} {fl : Int} (h : flB ns fl = true) : vnB ns = true ∧ 0 ≤ fl ∧ fl ≤ 500 := by
 unfold flB at h; simp only [Bool.and_eq_true, decide_eq_true_eq] at h; exact h
theorem flB_no {ns : List Nd} {fl : Int} (h : vnB ns = false ∨ (decide (0 ≤ fl) && decide (fl ≤ 500)) = false) : flB ns fl = false := by
 unfold flB; rcases h with h | h <;> rw [h] <;> simp
def jv4 (ns : List Nd) (fl : Int) : List Int := (List.range ns.length).map fun i => jx0 (ns.getD i nd0) ((jj2 ns fl).getD i 0)
theorem passF_len (ns : List Nd) (fl : Int) : (jv4 ns fl).length = ns.length := by unfold jv4; simp
theorem passF_get (ns : List Nd) (fl : Int) {i : Nat} (h : i < ns.length) : (jv4 ns fl).getD i 0 = jx0 (ns.getD i nd0) ((jj2 ns fl).getD i 0) := by
 unfold jv4; rw [List.getD_eq_getElem?_getD, List.getElem?_map, List.getElem?_range h]; rfl
def passedV (ns : List Nd) (fl : Int) : List Int := if flB ns fl = true then jv4 ns fl else []
theorem passed_no {ns : List Nd} {fl : Int} (h : flB ns fl = false) : passedV ns fl = [] := by unfold passedV; rw [h]; rfl
theorem passed_yes {ns : List Nd} {fl : Int} (h : flB ns fl = true) : passedV ns fl = jv4 ns fl := by unfold passedV; rw [h]; rfl
theorem passF_bd {ns : List Nd} (hv : vnB ns = true) {fl : Int} (hf : 0 ≤ fl ∧ fl ≤ 500) {i : Nat} (h : i < ns.length) : 0 ≤ (jv4 ns fl).getD i 0 ∧ (jv4 ns fl).getD i 0 ≤ (jj2 ns fl).getD i 0 ∧ (jv4 ns fl).getD i 0 ≤ 500 ∧ (jv4 ns fl).getD i 0 ≤ (ns.getD i nd0).2.2.2.1 := by
 rw [passF_get ns fl h]; obtain ⟨_, b, d, _⟩ := vn_at hv h; have a := come_bd hv hf i; have := pass_bd d.1 a.1 b.1
 omega
def gotL (ns : List Nd) (fl : Int) (k : Int) : List Int := (jz7 ns k).map fun z => (jj2 ns fl).getD z.toNat 0
theorem gotL_len (ns : List Nd) (fl : Int) (k : Int) : (gotL ns fl k).length = (jz7 ns k).length := by unfold gotL; rw [List.length_map]
theorem gotL_get (ns : List Nd) (fl : Int) (k : Int) {i : Nat} (h : i < (jz7 ns k).length) : (gotL ns fl k).getD i 0 = (jj2 ns fl).getD ((jz7 ns k).getD i 0).toNat 0 := by
 have e : (jz7 ns k).getD i 0 = (jz7 ns k)[i] := by rw [List.getD_eq_getElem?_getD, List.getElem?_eq_getElem h]; rfl
 unfold gotL; rw [e, List.getD_eq_getElem?_getD, List.getElem?_map, List.getElem?_eq_getElem h]; rfl
theorem sum_zeros : ∀ n : Nat, (List.replicate n (0 : Int)).sum = 0 := by
 intro n
 induction n with
 | zero => rfl
 | succ n ih => rw [List.replicate_succ, List.sum_cons, ih]; rfl
theorem got_sum {ns : List Nd} (hv : vnB ns = true) {fl : Int} (hf : 0 ≤ fl ∧ fl ≤ 500) {k : Nat} (hk : k < ns.length) : (gotL ns fl (k : Int)).sum = if vwB (wts ns (k : Int)) = true then (jv4 ns fl).getD k 0 else 0 := by
 by_cases hw : vwB (wts ns (k : Int)) = true
 ·rw [if_pos hw]
  have hcs := csB_pass hv hk (come_bd hv hf k).1 hw
  have e : gotL ns fl (k : Int) = sa 2 (jx0 (ns.getD k nd0) ((jj2 ns fl).getD k 0)) (wts ns (k : Int)) := by
   refine ext_z (by rw [gotL_len, sa_len]; unfold wts; rw [wk_len]) (fun i hi => ?_); rw [gotL_len] at hi; rw [gotL_get ns fl _ hi, come_kid hv hf hk hi, if_pos hw]
  rw [e, (sa_facts hcs (step := 2) (by omega)).1, passF_get ns fl hk]
 ·rw [if_neg hw]
  have e : gotL ns fl (k : Int) = List.replicate (jz7 ns (k : Int)).length 0 := by
   refine ext_z (by rw [gotL_len, List.length_replicate]) (fun i hi => ?_); rw [gotL_len] at hi; rw [gotL_get ns fl _ hi, come_kid hv hf hk hi, if_neg hw, List.getD_eq_getElem?_getD, List.getElem?_replicate, if_pos hi]; rfl
  rw [e, sum_zeros]
def shB (ns : List Nd) (k : Int) : Bool := decide (0 < (jz7 ns k).length) && ((wts ns k).sum == 0)
def lossAt (ns : List Nd) (fl : Int) (i : Nat) : Int := (jj2 ns fl).getD i 0 - (jv4 ns fl).getD i 0 + if shB ns (i : Int) = true then (jv4 ns fl).getD i 0 else 0
def lostTo (ns : List Nd) (fl : Int) : Nat → Int
 | 0 => 0
 | k + 1 => lostTo ns fl k + lossAt ns fl k
theorem lostTo_succ (ns : List Nd) (fl : Int) (k : Nat) : lostTo ns fl (k + 1) = lostTo ns fl k + lossAt ns fl k := rfl
theorem loss_bd {ns : List Nd} (hv : vnB ns = true) {fl : Int} (hf : 0 ≤ fl ∧ fl ≤ 500) {i : Nat} (hi : i < ns.length) : 0 ≤ lossAt ns fl i ∧ lossAt ns fl i ≤ 500 := by
 have a := come_bd hv hf i; have b := passF_bd hv hf hi; unfold lossAt; split <;> omega
theorem lost_bd {ns : List Nd} (hv : vnB ns = true) {fl : Int} (hf : 0 ≤ fl ∧ fl ≤ 500) : ∀ k, k ≤ ns.length → 0 ≤ lostTo ns fl k ∧ lostTo ns fl k ≤ 500 * (k : Int) := by
  intro k
  induction k with
  | zero => intro _; exact ⟨Int.le_refl _, by show (0 : Int) ≤ 500 * ((0 : Nat) : Int); omega⟩
  | succ k ih =>
    intro hk; have a := ih (by omega); have b := loss_bd hv hf (i := k) (by omega); rw [lostTo_succ]; omega
theorem loss_got {ns : List Nd} (hv : vnB ns = true) {fl : Int} (hf : 0 ≤ fl ∧ fl ≤ 500) {k : Nat} (hk : k < ns.length) : lossAt ns fl k = (jj2 ns fl).getD k 0 - (if (jz7 ns (k : Int)).length = 0 then (jv4 ns fl).getD k 0 else (gotL ns fl (k : Int)).sum) := by
 unfold lossAt shB; rw [wts_zero hv]
 by_cases hz : (jz7 ns (k : Int)).length = 0
 ·rw [if_pos hz, decide_eq_false (by omega)]
  show _ + (if (false && _) = true then _ else _) = _
  rw [Bool.false_and, if_neg (by simp)]; omega
 ·rw [if_neg hz, decide_eq_true (by omega), got_sum hv hf hk]
  by_cases hw : vwB (wts ns (k : Int)) = true
  ·rw [if_pos hw, hw]; show _ + (if (true && false) = true then _ else _) = _; rw [if_neg (by simp)]; omega
  ·have : vwB (wts ns (k : Int)) = false := by simpa using hw
   rw [if_neg hw, this]; show _ + (if (true && true) = true then _ else _) = _; rw [if_pos (by simp)]; omega
def jqj (ns : List Nd) (fl : Int) : Int := if flB ns fl = true then lostTo ns fl ns.length else -1
theorem lost_no {ns : List Nd} {fl : Int} (h : flB ns fl = false) : jqj ns fl = -1 := by unfold jqj; rw [h]; rfl
theorem lost_yes {ns : List Nd} {fl : Int} (h : flB ns fl = true) : jqj ns fl = lostTo ns fl ns.length := by unfold jqj; rw [h]; rfl
theorem row_set {w : World} {g : Nat} {zs : List Int} (h : Row w g zs) (k : Nat) (z : Int) (hk : k < zs.length) : Row (w.setCell ⟨g, k, none⟩ (.int .i64 z)) g (zs.set k z) := by
 unfold Row at *; rw [List.length_set]
 exact (World.rowIs.set h k (.int .i64 z)).congr (fun j hj => by
  show (if j = k then Value.int .i64 z else .int .i64 (zs.getD j 0)) = _
  rw [getD_set _ _ _ hk]; split <;> rfl)
theorem row_skip {w : World} {g g' : Nat} {zs : List Int} (h : Row w g zs) (k : Nat) (v : Value) (hne : g' ≠ g) : Row (w.setCell ⟨g', k, none⟩ v) g zs :=
 World.rowIs.of_block h (Below.heap_setCell w ⟨g', k, none⟩ v g (fun e => by first | exact hne e | exact hne e.symm))
theorem pickB_at (R : Nat → Nat → Bool) {k n : Nat} (h : k < n) : jz2 R k < n := by
 by_cases h0 : k = 0
 ·subst h0; exact h
 ·exact Nat.lt_trans (pickB_lt' (by omega)) h
theorem igreat (a : Option Addr) (cap : Nat) (zs : List Int) (w : World) (h : jqc w a zs) (hn : zs.length ≤ 1048576) :
  Calls Tryz.prog 179 #[.slice a zs.length cap] w fun e w' => e = .returned (.int .i64 (jz2 (jzi zs) zs.length : Nat)) ∧ Below w.heap.size w w' := by
 rcases h with rfl | ⟨g, o, rfl, hc⟩
 ·go_enter Tryz.func179, Tryz.ntmps179
  go_wp2_with fail; refine wp_loop_rounds 1 ?_; rw [rounds_succ]; go_wp2_with fail; go_ret; exact ⟨rfl, Below.refl _ _⟩
 ·have HC := Lib.hid hc
  clear hc; go_enter Tryz.func179, Tryz.ntmps179; go_wp2_with fail
  go_loopw [3, 7] (fun b i wr => ∃ k : Nat, k ≤ zs.length ∧ i = .int .i64 k ∧ b = .int .i64 (jz2 (jzi zs) k : Nat) ∧ Below w.heap.size w wr) (fun _ i _ => zs.length - (intOf i).toNat)
  case atStart => exact ⟨0, Nat.zero_le _, rfl, rfl, Below.refl _ _⟩
  case round =>
   obtain ⟨k, hk, rfl, rfl, hB⟩ := hrel
   by_cases hlt : k < zs.length
   ·have hb := pickB_at (jzi zs) hlt
    have hc := (hB.cell (p := ⟨g, o + k, none⟩) (World.block_lt_of_cell? w _ (HC.out k hlt))).trans (HC.out k hlt); have hd := (hB.cell (p := ⟨g, o + jz2 (jzi zs) k, none⟩) (World.block_lt_of_cell? w _ (HC.out _ hb))).trans (HC.out _ hb); have hs := pickB_succ (jzi zs) k; have hm : jzi zs k (jz2 (jzi zs) k) = decide (zs.getD k 0 > zs.getD (jz2 (jzi zs) k) 0) := rfl; rw [hm] at hs; clear hm; generalize jz2 (jzi zs) k = b at hb hd hs; generalize zs.getD k 0 = x at hc hs; generalize zs.getD b 0 = y at hd hs
    have i0 : (0 : Int) ≤ (k : Int) := by omega
    have i1 : (k : Int) < (zs.length : Int) := by omega
    have i2 : (0 : Int) ≤ (b : Int) := by omega
    have i3 : (b : Int) < (zs.length : Int) := by omega
    by_cases hxy : y < x
    ·have hs' : jz2 (jzi zs) (k + 1) = k := by rw [hs]; simp [hxy]
     have HS := Lib.hid hs'; clear hs hs'; go_wp2_with fail
     go_quiet (fail)
     go_wp2
     go_roundw
     case rel => exact ⟨k + 1, by omega, by go_num, by rw [HS.out], jqb hB _⟩
     case measure => simp [intOf]; omega
    ·have hs' : jz2 (jzi zs) (k + 1) = b := by rw [hs]; simp; omega
     have HS := Lib.hid hs'; clear hs hs'; go_wp2_with fail
     go_quiet (fail)
     go_wp2
     go_roundw
     case rel => exact ⟨k + 1, by omega, by go_num, by rw [HS.out], jqb hB _⟩
     case measure => simp [intOf]; omega
   ·have e : k = zs.length := by omega
    subst e; go_wp2_with fail; go_ret; exact ⟨rfl, hB⟩
def Divd (m : Nat) (R : List Int) (w : World) (e : Ending) (w' : World) : Prop := ∃ g : Nat, e = .returned (.slice (some ⟨g, 0, none⟩) m m) ∧ w.heap.size ≤ g ∧ Row w' g R ∧ Below w.heap.size w w'
theorem isumN (m : Nat) (a : Option Addr) (cap : Nat) (zs : List Int) (w : World) (hl : zs.length = m) (h : jqc w a zs) (hn : m ≤ 1048576) (hz : ∀ z ∈ zs, -1000000 ≤ z ∧ z ≤ 1000000) :
  Calls Tryz.prog 118 #[.slice a m cap] w fun e w' => e = .returned (.int .i64 zs.sum) ∧ w = w' := by
 subst hl; exact isum a cap zs w h hn hz
theorem igreatN (m : Nat) (a : Option Addr) (cap : Nat) (zs : List Int) (w : World) (hl : zs.length = m) (h : jqc w a zs) (hn : m ≤ 1048576) :
  Calls Tryz.prog 179 #[.slice a m cap] w fun e w' => e = .returned (.int .i64 (jz2 (jzi zs) m : Nat)) ∧ Below w.heap.size w w' := by
 subst hl; exact igreat a cap zs w h hn
theorem irest (n : Int) (a : Option Addr) (cap : Nat) (ws : List Int) (w : World) (h : jqc w a ws) (hn : ws.length ≤ 1048576) (hcs : csB n ws = true) :
  Calls Tryz.prog 145 #[.int .i64 n, .slice a ws.length cap] w (Divd ws.length (sr n ws) w) := by
 obtain ⟨⟨n0, n1⟩, hv⟩ := jvb hcs; have h0 := h
 rcases h with rfl | ⟨g, o, rfl, hc⟩
 ·exact absurd (vw_is hv).2.2 (by simp)
 ·have hmk := run_make_row' (P := Tryz.prog) 33 3 (.int .i64 0) 8 Tryz.underlying33 jj4 rfl .i64 .i64 ws.length (by omega) (by omega)
  obtain ⟨s0, s1⟩ := ws_bd hv; have l12 := (vw_is hv).2.1; have HZ := Lib.hid (all_bd (vw_is hv).1 (by omega)); have HC := Lib.hid hc; have HK := Lib.hid hcs; have H0 := Lib.hid h0; clear hc hv; go_enter Tryz.func145, Tryz.ntmps145; go_wp2_with fail; refine (icanSplit n _ cap ws _ h0 hn).mono ?_; rintro e w' ⟨rfl, rfl⟩; go_wp2_with fail; refine (isum _ cap ws _ h0 hn HZ.out).mono ?_; rintro e w' ⟨rfl, rfl⟩; go_wp2_with fail; clear hmk hcs h0
  go_loopw [23] (fun i wr => ∃ k : Nat, k ≤ ws.length ∧ i = .int .i64 k ∧ wr.rowIs w.heap.size 3 ws.length (fun j => if j < k then .int .i64 ((rsts n ws).getD j 0) else .int .i64 0) ∧ Below w.heap.size w wr) (fun i _ => ws.length - (intOf i).toNat)
  case atStart => exact ⟨0, Nat.zero_le _, rfl, (World.rowIs_made w (.int .i64 0) ws.length _).congr (fun i hi => by simp), by go_grown⟩
  case round =>
   obtain ⟨k, hk, rfl, hrow, hB⟩ := hrel
   by_cases hlt : k < ws.length
   ·have hc0 := HC.out k hlt
    have hc := (hB.cell (p := ⟨g, o + k, none⟩) (World.block_lt_of_cell? w _ hc0)).trans hc0
    have hd : wr.cell? ⟨w.heap.size, k, none⟩ = some (.int .i64 0) := by rw [hrow.cell hlt, if_neg (Nat.lt_irrefl k)]
    have hf := hrow.frozen k
    have hcon : ∀ z : Int, (rsts n ws).getD k 0 = z → (wr.setCell ⟨w.heap.size, k, none⟩ (.int .i64 z)).rowIs w.heap.size 3 ws.length (fun j => if j < k + 1 then .int .i64 ((rsts n ws).getD j 0) else .int .i64 0) := fun z hz =>
     (hrow.set k (.int .i64 z)).congr (fun j hj => by
      show (if j = k then Value.int .i64 z else if j < k then .int .i64 ((rsts n ws).getD j 0) else .int .i64 0) = _
      by_cases hjk : j = k
      ·subst hjk; rw [if_pos rfl, if_pos (by omega), hz]
      ·rw [if_neg hjk]
       by_cases hl : j < k
       ·rw [if_pos hl, if_pos (by omega)]
       ·rw [if_neg hl, if_neg (by omega)])
    have hcon2 := hcon _ (rsts_get n ws hlt); obtain ⟨z0, z1, z2, z3⟩ := q_bd HK.out hlt; clear hcon hc0; generalize ws.getD k 0 = z at hc hcon2 z0 z1 z2 z3; have HR := Lib.hid hcon2; have HB := Lib.hid hB; clear hcon2 hrow hB
    go_wp2
    go_roundw
    case rel => exact ⟨k + 1, by omega, by go_num, HR.out, HB.out.setCell (Nat.le_refl _) _⟩
    case measure => simp [intOf]; omega
   ·have R0 : Row wr w.heap.size (rsts n ws) := by
     unfold Row; rw [rsts_len]; exact hrow.congr (fun i hi => by rw [if_pos (by omega)])
    have hi := jqf H0.out hB; clear hrow; obtain ⟨q0, q1⟩ := q_sum HK.out; have hql := qs_len n ws
    have hqb : ∀ z ∈ qs n ws, -1000000 ≤ z ∧ z ≤ 1000000 := fun z hz => by
     obtain ⟨i, hi, rfl⟩ := List.getElem_of_mem hz; have := q_le HK.out (i := i) (by omega); rw [List.getD_eq_getElem?_getD, List.getElem?_eq_getElem hi] at this
     simp at this; omega
    have HQ := Lib.hid hqb; have HI := Lib.hid hi; have HR0 := Lib.hid R0; have HB := Lib.hid hB; clear hqb hi R0 hB hk; go_wp2_with fail; refine (iquot n _ cap ws _ HI.out hn HK.out).mono ?_; rintro e w2 ⟨g2, rfl, lg, Rg, Bg⟩
    have hne : g2 ≠ w.heap.size := by have := World.rowIs.lt HR0.out; omega
    have B2 := jq1 HB.out Bg; have lg2 : w.heap.size ≤ g2 := Nat.le_trans HB.out.size lg; have R2 := row_keep HR0.out Bg; clear Bg HR0 HB HI; go_wp2_with fail; refine (isumN ws.length _ _ (qs n ws) _ hql (row_ints Rg) hn HQ.out).mono ?_; rintro e w' ⟨rfl, rfl⟩; have hl := left_is HK.out; have HRg := Lib.hid Rg; have HR2 := Lib.hid R2; have HB2 := Lib.hid B2; clear Rg R2 B2; go_wp2_with fail
    go_loopw [10] (fun l wr => ∃ j : Nat, j ≤ jv0 n ws ∧ l = .int .i64 ((jv0 n ws : Int) - j) ∧ Row wr g2 (jz6 n ws j).1 ∧ Row wr w.heap.size (jz6 n ws j).2 ∧ Below w.heap.size w wr) (fun l _ => (intOf l).toNat)
    case atStart => exact ⟨0, Nat.zero_le _, by rw [hl]; go_num, HRg.out, HR2.out, HB2.out⟩
    case round =>
     obtain ⟨j, hj, rfl, RG, RD, hB⟩ := hrel
     by_cases hjl : j < jv0 n ws
     ·have RJ := rest_is HK.out j hj
      obtain ⟨hb, hpos⟩ := rest_best HK.out RJ hjl
      have hy : 0 ≤ (jz6 n ws j).1.getD (jz2 (jzi (jz6 n ws j).2) ws.length) 0 ∧ (jz6 n ws j).1.getD (jz2 (jzi (jz6 n ws j).2) ws.length) 0 ≤ 500001 := by
       have := q_le HK.out hb
       rcases RJ.each _ hb with h | h <;> omega
      obtain ⟨lG, lD⟩ := restTo_len n ws j; have e1 := restTo_succ1 n ws j; have e2 := restTo_succ2 n ws j
      obtain ⟨G', hG'⟩ : ∃ G', (jz6 n ws (j + 1)).1 = G' := ⟨_, rfl⟩
      obtain ⟨D', hD'⟩ : ∃ D', (jz6 n ws (j + 1)).2 = D' := ⟨_, rfl⟩
      rw [hG'] at e1; rw [hD'] at e2; have HGD := Lib.hid (And.intro hG' hD'); clear hG' hD'; generalize (jz6 n ws j).1 = G at *; generalize (jz6 n ws j).2 = D at *; clear RJ hpos; have HRG := Lib.hid RG; have HRD := Lib.hid RD; have HB := Lib.hid hB; have HE := Lib.hid (And.intro e1 e2); clear RG RD hB e1 e2; go_wp2_with fail; refine (igreatN ws.length _ _ D _ lD (row_ints HRD.out) hn).mono ?_; rintro e w3 ⟨rfl, B3⟩; have RG := row_keep HRG.out B3; have RD := row_keep HRD.out B3; have B4 := jq1 HB.out B3; obtain ⟨E1, E2⟩ := HE.out; generalize jz2 (jzi D) ws.length = b at *; have hx := World.rowIs.cell RG (i := b) (by omega); have hf := World.rowIs.frozen RG b; have hf2 := World.rowIs.frozen RD b; have hz := so (v := .int .i64 (G.getD b 0 + 1)) (show (⟨g2, b, none⟩ : Addr) ≠ ⟨w.heap.size, b, none⟩ from fun e => hne (by injection e)) (World.rowIs.cell RD (i := b) (by omega)); have lt2 := World.rowIs.lt RD
      have i0 : (0 : Int) ≤ (b : Int) := by omega
      have i1 : (b : Int) < (ws.length : Int) := by omega
      have sG := row_skip (row_set RG b (G.getD b 0 + 1) (by omega)) b (.int .i64 (-1)) (fun e => hne e.symm); have sD := row_set (row_skip RD b (.int .i64 (G.getD b 0 + 1)) hne) b (-1) (by omega); rw [← E1] at sG; rw [← E2] at sD; have sB : Below w.heap.size w ((w3.setCell ⟨g2, b, none⟩ (.int .i64 (G.getD b 0 + 1))).setCell ⟨w.heap.size, b, none⟩ (.int .i64 (-1))) := (B4.setCell (by show w.heap.size ≤ g2; exact lg2) _).setCell (Nat.le_refl _) _; have HS := Lib.hid (And.intro sG (And.intro sD sB)); clear sG sD sB RG RD B3 B4 E1 E2 HE HRG HRD HB; generalize G.getD b 0 = y at *
      go_wp2
      go_roundw
      case rel => exact ⟨j + 1, by omega, by go_num, by rw [HGD.out.1]; exact HS.out.1, by rw [HGD.out.2]; exact HS.out.2.1, HS.out.2.2⟩
      case measure => simp [intOf]; omega
     ·have e : j = jv0 n ws := by omega
      subst e
      go_wp2
      go_ret; exact ⟨g2, rfl, lg2, RG, hB⟩

def atSum (c : List Int) : List Int → Int
 | [] => 0
 | z :: t => c.getD z.toNat 0 + atSum c t
theorem atSum_append (c a b : List Int) : atSum c (a ++ b) = atSum c a + atSum c b := by
 induction a with
 | nil => show atSum c b = 0 + atSum c b; omega
 | cons h t ih => show c.getD h.toNat 0 + atSum c (t ++ b) = c.getD h.toNat 0 + atSum c t + _; rw [ih]; omega
theorem atSum_got (ns : List Nd) (fl : Int) (k : Int) : atSum (jj2 ns fl) (jz7 ns k) = (gotL ns fl k).sum := by
 unfold gotL
 induction jz7 ns k with
 | nil => rfl
 | cons h t ih => rw [List.map_cons, List.sum_cons, ← ih]; rfl
def gotT (ns : List Nd) (c : List Int) (m : Nat) : Nat → Int
 | 0 => 0
 | k + 1 => gotT ns c m k + atSum c (jx7 ns (k : Int) m)
theorem gotT_succ (ns : List Nd) (c : List Int) (m k : Nat) : gotT ns c m (k + 1) = gotT ns c m k + atSum c (jx7 ns (k : Int) m) := rfl
theorem gotT_more (ns : List Nd) (c : List Int) (m : Nat) : ∀ k : Nat, gotT ns c (m + 1) k = gotT ns c m k + if 0 ≤ (ns.getD m nd0).1 ∧ (ns.getD m nd0).1 < (k : Int) then c.getD m 0 else 0 := by
  intro k
  induction k with
  | zero => show (0 : Int) = 0 + _; rw [if_neg (by omega)]; rfl
  | succ k ih =>
    rw [gotT_succ, gotT_succ, ih]
    by_cases e : (ns.getD m nd0).1 = (k : Int)
    · rw [jva e, atSum_append, if_neg (by omega), if_pos (by omega)]
      show _ + (_ + (c.getD ((m : Int)).toNat 0 + 0)) = _
      rw [show ((m : Int)).toNat = m from by omega]; omega
    · rw [kidsTo_no e]
      by_cases h : 0 ≤ (ns.getD m nd0).1 ∧ (ns.getD m nd0).1 < (k : Int)
      · rw [if_pos h, if_pos (by omega)]; omega
      · rw [if_neg h, if_neg (by omega)]; omega
theorem gotT_zero (ns : List Nd) (c : List Int) : ∀ k : Nat, gotT ns c 0 k = 0 := by
 intro k
 induction k with
 | zero => rfl
 | succ k ih => rw [gotT_succ, ih]; rfl
def sumTo (c : List Int) : Nat → Int
 | 0 => 0
 | k + 1 => sumTo c k + c.getD k 0
theorem sumTo_succ (c : List Int) (k : Nat) : sumTo c (k + 1) = sumTo c k + c.getD k 0 := rfl
theorem got_all {ns : List Nd} (hv : vnB ns = true) (c : List Int) : ∀ m : Nat, m < ns.length → gotT ns c (m + 1) ns.length = sumTo c (m + 1) - c.getD 0 0 := by
  intro m
  induction m with
  | zero =>
    intro h; rw [gotT_more, gotT_zero, vn_par0 hv, if_neg (by omega)]
    show (0 : Int) + 0 = 0 + c.getD 0 0 - c.getD 0 0; omega
  | succ m ih =>
    intro h; have p := vn_par hv h (by omega); rw [gotT_more, ih (by omega), if_pos (by omega), sumTo_succ c (m + 1)]; omega
theorem lost_leaves {ns : List Nd} (hv : vnB ns = true) {fl : Int} (hf : 0 ≤ fl ∧ fl ≤ 500) : ∀ k : Nat, k ≤ ns.length → lostTo ns fl k + atSum (jv4 ns fl) (leavesTo ns k) = sumTo (jj2 ns fl) k - gotT ns (jj2 ns fl) ns.length k := by
  intro k
  induction k with
  | zero => intro _; rfl
  | succ k ih =>
    intro hk; have a := ih (by omega); rw [lostTo_succ, loss_got hv hf (by omega), sumTo_succ, gotT_succ]; have hg : atSum (jj2 ns fl) (jx7 ns (k : Int) ns.length) = (gotL ns fl (k : Int)).sum := atSum_got ns fl (k : Int); rw [hg]
    by_cases hz : (jz7 ns (k : Int)).length = 0
    · have h0 : (gotL ns fl (k : Int)).sum = 0 := by
        have : gotL ns fl (k : Int) = [] := List.eq_nil_of_length_eq_zero (by rw [gotL_len]; exact hz); rw [this]; rfl
      rw [if_pos hz, leavesTo_yes hz, atSum_append, h0]
      show _ + (atSum (jv4 ns fl) (leavesTo ns k) + ((jv4 ns fl).getD ((k : Int)).toNat 0 + 0)) = _
      rw [show ((k : Int)).toNat = k from by omega]; omega
    · rw [if_neg hz, leavesTo_no hz]; omega
theorem lost_all {ns : List Nd} (hv : vnB ns = true) {fl : Int} (hf : 0 ≤ fl ∧ fl ≤ 500) : lostTo ns fl ns.length + atSum (jv4 ns fl) (leavesTo ns ns.length) = fl := by
 obtain ⟨l1, _, _⟩ := vn_is hv; have a := lost_leaves hv hf ns.length (Nat.le_refl _); have b := got_all hv (jj2 ns fl) (ns.length - 1) (by omega); rw [show ns.length - 1 + 1 = ns.length from by omega, come_spring hv] at b
 omega
theorem atSum_bd {c : List Int} (hc : ∀ i, 0 ≤ c.getD i 0 ∧ c.getD i 0 ≤ 500) : ∀ ls : List Int, 0 ≤ atSum c ls ∧ atSum c ls ≤ 500 * (ls.length : Int) := by
  intro ls
  induction ls with
  | nil => exact ⟨Int.le_refl _, by show (0 : Int) ≤ 500 * ((0 : Nat) : Int); omega⟩
  | cons z t ih =>
    have a := hc z.toNat
    show 0 ≤ c.getD z.toNat 0 + atSum c t ∧ c.getD z.toNat 0 + atSum c t ≤ 500 * ((t.length + 1 : Nat) : Int)
    omega
theorem passF_all {ns : List Nd} (hv : vnB ns = true) {fl : Int} (hf : 0 ≤ fl ∧ fl ≤ 500) (i : Nat) : 0 ≤ (jv4 ns fl).getD i 0 ∧ (jv4 ns fl).getD i 0 ≤ 500 := by
 by_cases h : i < ns.length
 ·have := passF_bd hv hf h; omega
 ·rw [List.getD_eq_getElem?_getD, List.getElem?_eq_none (by rw [passF_len]; omega)]
  exact ⟨Int.le_refl _, by show (0 : Int) ≤ 500; omega⟩

theorem iVB (r h : Int) (w : World) :
  Calls Tryz.prog 48 #[.agg #[.int .i64 r, .int .i64 h]] w fun e w' => e = .returned (.bool (vbB r h)) ∧ Below w.heap.size w w' := by
 by_cases a : r < 0 ∨ 20000 < r
 ·rw [vb_no (by omega)]
  go_enter Tryz.func48, Tryz.ntmps48; go_wp2_with fail; refine (iwithin_no r 20000 _ a).mono ?_; rintro e w' ⟨rfl, rfl⟩; go_wp2_with fail; go_ret; exact ⟨rfl, by go_grown⟩
 ·have a1 : 0 ≤ r := by omega
  have a2 : r ≤ 20000 := by omega
  by_cases b : h < 0 ∨ r < h
  ·rw [vb_no (by omega)]
   clear a; go_enter Tryz.func48, Tryz.ntmps48; go_wp2_with fail; refine (jj6 r 20000 _ a1 a2).mono ?_; rintro e w' ⟨rfl, rfl⟩; go_wp2_with fail; refine (iwithin_no h r _ b).mono ?_; rintro e w' ⟨rfl, rfl⟩; go_wp2_with fail; go_ret; exact ⟨rfl, by go_grown⟩
  ·have b1 : 0 ≤ h := by omega
   have b2 : h ≤ r := by omega
   rw [vb_iff.2 ⟨a1, a2, b1, b2⟩]; clear a b; go_enter Tryz.func48, Tryz.ntmps48; go_wp2_with fail; refine (jj6 r 20000 _ a1 a2).mono ?_; rintro e w' ⟨rfl, rfl⟩; go_wp2_with fail; refine (jj6 h r _ b1 b2).mono ?_; rintro e w' ⟨rfl, rfl⟩; go_wp2_with fail; go_ret; exact ⟨rfl, by go_grown⟩
theorem ilesser (a b : Int) (w : World) :
  Calls Tryz.prog 58 #[.int .i64 a, .int .i64 b] w fun e w' => e = .returned (.int .i64 (min a b)) ∧ w = w' := by
 by_cases h : a < b
 ·rw [show min a b = a from by omega]
  go_enter Tryz.func58, Tryz.ntmps58; go_wp2_with fail; go_ret; exact ⟨rfl, rfl⟩
 ·rw [show min a b = b from by omega]
  have e1 : decide (a < b) = false := decide_eq_false h; clear h; go_enter Tryz.func58, Tryz.ntmps58; go_wp2_with fail; go_ret; exact ⟨rfl, rfl⟩
def stB (r h c w : Int) : Bool := vbB r h && (decide (0 ≤ c) && decide (c ≤ 500)) && (decide (0 ≤ w) && decide (w ≤ 500))
def stV (r h c w : Int) : Value := if stB r h c w then .tuple #[.agg #[.int .i64 r, .int .i64 (jxd r h c w)], .int .i64 (jzh h c w), .int .i64 (jx2 r h c w)] else .tuple #[.agg #[.int .i64 0, .int .i64 0], .int .i64 0, .int .i64 0]
theorem stV_no {r h c w : Int} (e : stB r h c w = false) : stV r h c w = .tuple #[.agg #[.int .i64 0, .int .i64 0], .int .i64 0, .int .i64 0] := by unfold stV; rw [e]; rfl
theorem stV_yes {r h c w : Int} (e : stB r h c w = true) : stV r h c w = .tuple #[.agg #[.int .i64 r, .int .i64 (jxd r h c w)], .int .i64 (jzh h c w), .int .i64 (jx2 r h c w)] := by unfold stV; rw [e]; rfl
theorem stB_no {r h c w : Int} (e : vbB r h = false ∨ (c < 0 ∨ 500 < c) ∨ (w < 0 ∨ 500 < w)) : stB r h c w = false := by
 unfold stB
 rcases e with e | e | e
 ·rw [e]; rfl
 ·rw [show (decide (0 ≤ c) && decide (c ≤ 500)) = false from by simp; omega]; simp
 ·rw [show (decide (0 ≤ w) && decide (w ≤ 500)) = false from by simp; omega]; simp
theorem stB_yes {r h c w : Int} (e : vbB r h = true) (a : 0 ≤ c ∧ c ≤ 500) (b : 0 ≤ w ∧ w ≤ 500) : stB r h c w = true := by
 unfold stB; rw [e, decide_eq_true a.1, decide_eq_true a.2, decide_eq_true b.1, decide_eq_true b.2]; rfl
theorem iStep (r h c q : Int) (w : World) :
    Calls Tryz.prog 19 #[.agg #[.int .i64 r, .int .i64 h], .int .i64 c, .int .i64 q] w fun e w' => e = .returned (stV r h c q) ∧ Below w.heap.size w w' := by
  have CV := fun W => iVB r h W
  cases hv : vbB r h with
  | false =>
    rw [hv] at CV; rw [stV_no (stB_no (.inl hv))]; clear hv; go_enter Tryz.func19, Tryz.ntmps19; go_wp2_with fail; refine (CV _).mono ?_; rintro e w1 ⟨rfl, hB⟩; have K := (Blk.new (w.alloc (.cells #[.int .i64 r, .int .i64 h] 27)) 27 #[.int .i64 0, .int .i64 0]).next hB; have J := ((Blk.new w 27 #[.int .i64 r, .int .i64 h]).alloc (.cells #[.int .i64 0, .int .i64 0] 27)).next hB; have B : Below w.heap.size w w1 := jq1 (by go_grown) hB; rw [World.size_alloc] at K; have hK := Lib.hid K; obtain ⟨s0, s1, s2, s3, s4⟩ := jqh K; obtain ⟨j0, j1, _, _, _⟩ := jqh J; clear K hB J; go_wp2_with fail; refine bodyPost_ret (v := .tuple #[.agg #[.int .i64 0, .int .i64 0], .int .i64 0, .int .i64 0]) (by simp [results, Tryz.results19, go_sem, s0, s1]) rfl ⟨rfl, by go_grown⟩
  | true =>
    rw [hv] at CV
    by_cases h1 : c < 0 ∨ 500 < c
    · rw [stV_no (stB_no (.inr (.inl h1)))]
      clear hv; go_enter Tryz.func19, Tryz.ntmps19; go_wp2_with fail; refine (CV _).mono ?_; rintro e w1 ⟨rfl, hB⟩; have K := (Blk.new (w.alloc (.cells #[.int .i64 r, .int .i64 h] 27)) 27 #[.int .i64 0, .int .i64 0]).next hB; have J := ((Blk.new w 27 #[.int .i64 r, .int .i64 h]).alloc (.cells #[.int .i64 0, .int .i64 0] 27)).next hB; have B : Below w.heap.size w w1 := jq1 (by go_grown) hB; rw [World.size_alloc] at K; have hK := Lib.hid K; obtain ⟨s0, s1, s2, s3, s4⟩ := jqh K; obtain ⟨j0, j1, _, _, _⟩ := jqh J; clear K hB J; go_wp2_with fail; refine (iwithin_no c 500 _ h1).mono ?_; rintro e w' ⟨rfl, rfl⟩; go_wp2_with fail; refine bodyPost_ret (v := .tuple #[.agg #[.int .i64 0, .int .i64 0], .int .i64 0, .int .i64 0]) (by simp [results, Tryz.results19, go_sem, s0, s1]) rfl ⟨rfl, by go_grown⟩
    have h1 : 0 ≤ c ∧ c ≤ 500 := by omega
    by_cases h2 : q < 0 ∨ 500 < q
    · rw [stV_no (stB_no (.inr (.inr h2)))]
      clear hv; go_enter Tryz.func19, Tryz.ntmps19; go_wp2_with fail; refine (CV _).mono ?_; rintro e w1 ⟨rfl, hB⟩; have K := (Blk.new (w.alloc (.cells #[.int .i64 r, .int .i64 h] 27)) 27 #[.int .i64 0, .int .i64 0]).next hB; have J := ((Blk.new w 27 #[.int .i64 r, .int .i64 h]).alloc (.cells #[.int .i64 0, .int .i64 0] 27)).next hB; have B : Below w.heap.size w w1 := jq1 (by go_grown) hB; rw [World.size_alloc] at K; have hK := Lib.hid K; obtain ⟨s0, s1, s2, s3, s4⟩ := jqh K; obtain ⟨j0, j1, _, _, _⟩ := jqh J; clear K hB J; go_wp2_with fail; refine (jj6 c 500 _ h1.1 h1.2).mono ?_; rintro e w' ⟨rfl, rfl⟩; go_wp2_with fail; refine (iwithin_no q 500 _ h2).mono ?_; rintro e w' ⟨rfl, rfl⟩; go_wp2_with fail; refine bodyPost_ret (v := .tuple #[.agg #[.int .i64 0, .int .i64 0], .int .i64 0, .int .i64 0]) (by simp [results, Tryz.results19, go_sem, s0, s1]) rfl ⟨rfl, by go_grown⟩
    have h2 : 0 ≤ q ∧ q ≤ 500 := by omega
    obtain ⟨r0, r1, r2, r3⟩ := vb_iff.1 hv; have HV := Lib.hid (stV_yes (stB_yes hv h1 h2)); obtain ⟨c0, c1⟩ := h1; obtain ⟨q0, q1⟩ := h2; clear hv
    obtain ⟨g, hg⟩ : ∃ g, jzh h c q = g := ⟨_, rfl⟩
    obtain ⟨s, hs⟩ : ∃ s, jxd r h c q = s := ⟨_, rfl⟩
    have hgd : min q (h + c) = g := hg
    have hsd : min (h + c - g) r = s := by rw [← hs, ← hg]; unfold jxd; omega
    have HG := Lib.hid hg; have HS := Lib.hid hs
    have g0 : 0 ≤ g := by omega
    have g1 : g ≤ q := by omega
    have g2 : g ≤ h + c := by omega
    have C1 := fun W => ilesser q (h + c) W
    have C2 := fun W => ilesser (h + c - g) r W
    rw [hgd] at C1; rw [hsd] at C2
    have s0 : 0 ≤ s := by omega
    have s1 : s ≤ h + c - g := by omega
    clear hg hs hgd hsd; go_enter Tryz.func19, Tryz.ntmps19; go_wp2_with fail; refine (CV _).mono ?_; rintro e w1 ⟨rfl, hB⟩; have K := (Blk.new (w.alloc (.cells #[.int .i64 r, .int .i64 h] 27)) 27 #[.int .i64 0, .int .i64 0]).next hB; have J := ((Blk.new w 27 #[.int .i64 r, .int .i64 h]).alloc (.cells #[.int .i64 0, .int .i64 0] 27)).next hB; have B : Below w.heap.size w w1 := jq1 (by go_grown) hB; rw [World.size_alloc] at K; have hK := Lib.hid K; obtain ⟨s0, s1, s2, s3, s4⟩ := jqh K; obtain ⟨j0, j1, _, _, _⟩ := jqh J; clear K hB J; go_wp2_with fail; refine (jj6 c 500 _ c0 c1).mono ?_; rintro e w' ⟨rfl, rfl⟩; go_wp2_with fail; refine (jj6 q 500 _ q0 q1).mono ?_; rintro e w' ⟨rfl, rfl⟩; go_wp2_with fail; refine (C1 _).mono ?_; rintro e w' ⟨rfl, rfl⟩; go_wp2_with fail; refine (C2 _).mono ?_; rintro e w' ⟨rfl, rfl⟩; go_wp2_with fail; obtain ⟨f0, f1, _, _, _⟩ := jqh (hK.out.two (.int .i64 r) (.int .i64 s)); refine bodyPost_ret (v := .tuple #[.agg #[.int .i64 r, .int .i64 s], .int .i64 g, .int .i64 (h + c - g - s)]) (by simp [results, Tryz.results19, go_sem, f0, f1]) rfl ⟨?_, by go_grown⟩; rw [HV.out, HS.out]; unfold jx2; rw [HS.out, HG.out]

def marks (n : Nat) : List Int := (List.range n).map fun (i : Nat) => (1 : Int) + (i : Int)

theorem fac_all {step x v : Int} (h : 1 ≤ step ∧ step ≤ 2) (hx : 0 ≤ x ∧ x ≤ 1000) (hv : 0 ≤ v ∧ v ≤ 1000) :
  0 ≤ step * v ∧ step * v ≤ 2000 ∧ 0 ≤ x * (step * v + 1) ∧ x * (step * v + 1) ≤ 2001000 := by
 have a := Int.mul_nonneg (a := step) (by omega) hv.1; have b : step * v ≤ 2 * 1000 := Int.mul_le_mul h.2 hv.2 hv.1 (by omega); have c := Int.mul_nonneg (b := step * v + 1) hx.1 (by omega); have d : x * (step * v + 1) ≤ 1000 * 2001 := Int.mul_le_mul hx.2 (by omega) (by omega) (by omega)
 omega
theorem wrap_of {z : Int} (h : -2000000000 ≤ z ∧ z ≤ 2000000000) : IntKind.i64.wrap z = z := by rw [IntKind.wrap_i64]; omega
theorem ihigh (a b : Option Addr) (ca cb : Nat) (step : Int) (ws gs : List Int) (w : World) (ha : jqc w a ws) (hb : jqc w b gs) (hl : gs.length = ws.length) (hn : ws.length ≤ 1048576) (hs : 1 ≤ step ∧ step ≤ 2)
  (h1 : ∀ i, i < ws.length → 0 ≤ ws.getD i 0 ∧ ws.getD i 0 ≤ 1000) (h2 : ∀ i, i < ws.length → 0 ≤ gs.getD i 0 ∧ gs.getD i 0 ≤ 1000) (hz : 0 < ws.length) :
  Calls Tryz.prog 198 #[.slice a ws.length ca, .slice b ws.length cb, .int .i64 step] w fun e w' => e = .returned (.int .i64 (jz2 (avgB step ws gs) ws.length : Nat)) ∧ Below w.heap.size w w' := by
 rcases ha with rfl | ⟨g, o, rfl, hc⟩
 ·exact absurd hz (by simp)
 ·rcases hb with rfl | ⟨g2, o2, rfl, hc2⟩
  ·exact absurd hl (by simp; omega)
  ·have HC := Lib.hid hc
   have HD := Lib.hid hc2; have H1 := Lib.hid h1; have H2 := Lib.hid h2; clear hc hc2 h1 h2; go_enter Tryz.func198, Tryz.ntmps198; go_wp2_with fail
   go_loopw [7, 11] (fun b i wr => ∃ k : Nat, k ≤ ws.length ∧ i = .int .i64 k ∧ b = .int .i64 (jz2 (avgB step ws gs) k : Nat) ∧ Below w.heap.size w wr) (fun _ i _ => ws.length - (intOf i).toNat)
   case atStart => exact ⟨0, Nat.zero_le _, rfl, rfl, Below.refl _ _⟩
   case round =>
    obtain ⟨k, hk, rfl, rfl, hB⟩ := hrel
    by_cases hlt : k < ws.length
    ·have hb := pickB_at (avgB step ws gs) hlt
     have c1 := (hB.cell (p := ⟨g, o + k, none⟩) (World.block_lt_of_cell? w _ (HC.out k hlt))).trans (HC.out k hlt); have c2 := (hB.cell (p := ⟨g, o + jz2 (avgB step ws gs) k, none⟩) (World.block_lt_of_cell? w _ (HC.out _ hb))).trans (HC.out _ hb); have c3 := (hB.cell (p := ⟨g2, o2 + k, none⟩) (World.block_lt_of_cell? w _ (HD.out k (by omega)))).trans (HD.out k (by omega)); have c4 := (hB.cell (p := ⟨g2, o2 + jz2 (avgB step ws gs) k, none⟩) (World.block_lt_of_cell? w _ (HD.out _ (by omega)))).trans (HD.out _ (by omega)); have hsu := pickB_succ (avgB step ws gs) k; have hm : avgB step ws gs k (jz2 (avgB step ws gs) k) = decide (ws.getD k 0 * (step * gs.getD (jz2 (avgB step ws gs) k) 0 + 1) > ws.getD (jz2 (avgB step ws gs) k) 0 * (step * gs.getD k 0 + 1)) := rfl; rw [hm] at hsu; obtain ⟨p1, p2, p3, p4⟩ := fac_all (x := ws.getD k 0) hs (H1.out k hlt) (H2.out _ hb); obtain ⟨q1, q2, q3, q4⟩ := fac_all (x := ws.getD (jz2 (avgB step ws gs) k) 0) hs (H1.out _ hb) (H2.out k hlt); clear hm; generalize jz2 (avgB step ws gs) k = b at *; generalize ws.getD k 0 = x at *; generalize ws.getD b 0 = y at *; generalize gs.getD k 0 = u at *; generalize gs.getD b 0 = v at *; have t1 : IntKind.i64.wrap (step * v) = step * v := wrap_of (by omega); have t2 : IntKind.i64.wrap (step * u) = step * u := wrap_of (by omega); have t3 : IntKind.i64.wrap (step * v + 1) = step * v + 1 := wrap_of (by omega); have t4 : IntKind.i64.wrap (step * u + 1) = step * u + 1 := wrap_of (by omega); have t5 : IntKind.i64.wrap (x * (step * v + 1)) = x * (step * v + 1) := wrap_of (by omega)
     have t6 : IntKind.i64.wrap (y * (step * u + 1)) = y * (step * u + 1) := wrap_of (by omega)
     have i0 : (0 : Int) ≤ (k : Int) := by omega
     have i1 : (k : Int) < (ws.length : Int) := by omega
     have i2 : (0 : Int) ≤ (b : Int) := by omega
     have i3 : (b : Int) < (ws.length : Int) := by omega
     clear hl hs
     by_cases hxy : y * (step * u + 1) < x * (step * v + 1)
     ·have hs' : jz2 (avgB step ws gs) (k + 1) = k := by rw [hsu]; simp [hxy]
      have HS := Lib.hid hs'; clear hsu hs'; go_wp2_with fail
      go_quiet (fail)
      go_wp2
      go_roundw
      case rel => exact ⟨k + 1, by omega, by go_num, by rw [HS.out], jqb hB _⟩
      case measure => simp [intOf]; omega
     ·have hs' : jz2 (avgB step ws gs) (k + 1) = b := by rw [hsu, decide_eq_false (by omega)]; rfl
      have HS := Lib.hid hs'; clear hsu hs'; go_wp2_with fail
      go_quiet (fail)
      go_wp2
      go_roundw
      case rel => exact ⟨k + 1, by omega, by go_num, by rw [HS.out], jqb hB _⟩
      case measure => simp [intOf]; omega
    ·have e : k = ws.length := by omega
     subst e; go_wp2_with fail; go_ret; exact ⟨rfl, hB⟩
theorem iavg_no (step n : Int) (a : Option Addr) (cap : Nat) (ws : List Int) (w : World) (h : jqc w a ws) (hn : ws.length ≤ 1048576) (hcs : csB n ws = false) :
  Calls Tryz.prog 191 #[.int .i64 n, .slice a ws.length cap, .int .i64 step] w fun e w' => e = .returned (.slice none 0 0) ∧ w = w' := by
 go_enter Tryz.func191, Tryz.ntmps191; go_wp2_with fail; refine (icanSplit n a cap ws _ h hn).mono ?_; rintro e w' ⟨rfl, rfl⟩; go_wp2_with fail; go_ret; exact ⟨rfl, rfl⟩
theorem iavg (step n : Int) (a : Option Addr) (cap : Nat) (ws : List Int) (w : World) (h : jqc w a ws) (hn : ws.length ≤ 1048576) (hs : 1 ≤ step ∧ step ≤ 2) (hcs : csB n ws = true) :
  Calls Tryz.prog 191 #[.int .i64 n, .slice a ws.length cap, .int .i64 step] w (Divd ws.length (sa step n ws) w) := by
 obtain ⟨⟨n0, n1⟩, hv⟩ := jvb hcs; have hmk := run_make_row' (P := Tryz.prog) 33 3 (.int .i64 0) 8 Tryz.underlying33 jj4 rfl .i64 .i64 ws.length (by omega) (by omega); have l1 := ws_ne hv; have HV := Lib.hid hv; have HK := Lib.hid hcs; have H0 := Lib.hid h; clear hv hcs h; go_enter Tryz.func191, Tryz.ntmps191; go_wp2_with fail; refine (icanSplit n _ cap ws _ H0.out hn).mono ?_; rintro e w' ⟨rfl, rfl⟩; rw [HK.out]; go_wp2_with fail; clear hmk
 go_loopw [8] (fun l wr => ∃ j : Nat, j ≤ n.toNat ∧ l = .int .i64 (n - j) ∧ Row wr w.heap.size (jx4 step ws j) ∧ Below w.heap.size w wr) (fun l _ => (intOf l).toNat)
 case atStart =>
  refine ⟨0, Nat.zero_le _, by go_num, ?_, by go_grown⟩; unfold Row; rw [avgTo_len]; refine (World.rowIs_made w (.int .i64 0) ws.length _).congr (fun i hi => ?_)
  show Value.int .i64 0 = .int .i64 ((List.replicate ws.length (0 : Int)).getD i 0)
  rw [List.getD_eq_getElem?_getD, List.getElem?_replicate]; split <;> rfl
 case round =>
  obtain ⟨j, hj, rfl, RG, hB⟩ := hrel
  by_cases hjn : (j : Int) < n
  ·have A := avg_is HV.out hs j (by omega)
   obtain ⟨hb, _⟩ := avg_pos HV.out hs (by omega) A; have hl := avgTo_len step ws j; have e1 := avgTo_succ step ws j
   have hbd : ∀ i, i < ws.length → 0 ≤ (jx4 step ws j).getD i 0 ∧ (jx4 step ws j).getD i 0 ≤ 1000 := fun i hi => by have := A.bd i hi; omega
   obtain ⟨G', hG'⟩ : ∃ G', jx4 step ws (j + 1) = G' := ⟨_, rfl⟩
   rw [hG'] at e1; have HG := Lib.hid hG'; clear hG' A; generalize jx4 step ws j = G at *; have HBD := Lib.hid hbd; have HRG := Lib.hid RG; have HB := Lib.hid hB; have HE := Lib.hid e1; clear hbd RG hB e1; go_wp2_with fail; refine (ihigh _ _ _ _ step ws G _ (jqf H0.out HB.out) (row_ints HRG.out) hl hn hs (fun i hi => all_get HV.out hi) HBD.out l1).mono ?_; rintro e w3 ⟨rfl, B3⟩; have RG := row_keep HRG.out B3; have B4 := jq1 HB.out B3; have E1 := HE.out; have hy := HBD.out _ hb; generalize jz2 (avgB step ws G) ws.length = b at *; have hx := World.rowIs.cell RG (i := b) (by omega); have hf := World.rowIs.frozen RG b
   have i0 : (0 : Int) ≤ (b : Int) := by omega
   have i1 : (b : Int) < (ws.length : Int) := by omega
   have sG := row_set RG b (G.getD b 0 + 1) (by omega); rw [← E1] at sG; have sB : Below w.heap.size w (w3.setCell ⟨w.heap.size, b, none⟩ (.int .i64 (G.getD b 0 + 1))) := B4.setCell (Nat.le_refl _) _; have HS := Lib.hid (And.intro sG sB); clear sG sB RG B3 B4 E1 HE HRG HB; generalize G.getD b 0 = y at *
   go_wp2
   go_roundw
   case rel => exact ⟨j + 1, by omega, by go_num, by rw [HG.out]; exact HS.out.1, HS.out.2⟩
   case measure => simp [intOf]; omega
  ·have e : j = n.toNat := by omega
   subst e
   have e2 : ((n.toNat : Nat) : Int) = n := by omega
   have HR := Lib.hid RG; clear RG; rw [e2]
   go_wp2
   go_ret; exact ⟨w.heap.size, rfl, Nat.le_refl _, HR.out, hB⟩
theorem imiddle_no (n : Int) (a : Option Addr) (cap : Nat) (ws : List Int) (w : World) (h : jqc w a ws) (hn : ws.length ≤ 1048576) (hcs : csB n ws = false) :
  Calls Tryz.prog 159 #[.int .i64 n, .slice a ws.length cap] w fun e w' => e = .returned (.slice none 0 0) ∧ w = w' := by
 go_enter Tryz.func159, Tryz.ntmps159; go_wp2_with fail; refine (iavg_no 2 n a cap ws _ h hn hcs).mono ?_; rintro e w' ⟨rfl, rfl⟩; go_wp2_with fail; go_ret; exact ⟨rfl, rfl⟩
theorem imiddle (n : Int) (a : Option Addr) (cap : Nat) (ws : List Int) (w : World) (h : jqc w a ws) (hn : ws.length ≤ 1048576) (hcs : csB n ws = true) :
  Calls Tryz.prog 159 #[.int .i64 n, .slice a ws.length cap] w (Divd ws.length (sa 2 n ws) w) := by
 have HC := Lib.hid hcs; clear hcs; go_enter Tryz.func159, Tryz.ntmps159; go_wp2_with fail; refine (iavg 2 n a cap ws _ h hn (by omega) HC.out).mono ?_; rintro e w' ⟨g, rfl, hg, hr, hB⟩; go_wp2_with fail; go_ret; exact ⟨g, rfl, hg, hr, hB⟩
theorem kp6 {W wq v : World} {p0 p1 p2 p3 p4 p5 : Addr} {u0 u1 u2 u3 u4 u5 : Value} (hb : Below W.heap.size W wq) (h : (W.cell? p0 = some u0 ∧ W.cell? p1 = some u1 ∧ W.cell? p2 = some u2 ∧ W.cell? p3 = some u3 ∧ W.cell? p4 = some u4 ∧ W.cell? p5 = some u5) ∧ Below v.heap.size v W) :
  (wq.cell? p0 = some u0 ∧ wq.cell? p1 = some u1 ∧ wq.cell? p2 = some u2 ∧ wq.cell? p3 = some u3 ∧ wq.cell? p4 = some u4 ∧ wq.cell? p5 = some u5) ∧ Below v.heap.size v wq := by
 obtain ⟨⟨a, b, c, d, e, f⟩, g⟩ := h
 have k : ∀ {p : Addr} {u : Value}, W.cell? p = some u → wq.cell? p = some u := fun hp => (hb.cell (World.block_lt_of_cell? W _ hp)).trans hp
 exact ⟨⟨k a, k b, k c, k d, k e, k f⟩, jq1 g hb⟩
theorem ipassing (x0 x1 x2 x3 x4 c : Int) (w : World) (hc : 0 ≤ c ∧ c ≤ 500) (h2 : 0 ≤ x2 ∧ x2 ≤ 500) (h3 : 0 ≤ x3 ∧ x3 ≤ 500) :
  Calls Tryz.prog 115 #[.agg #[.int .i64 x0, .int .i64 x1, .int .i64 x2, .int .i64 x3, .int .i64 x4], .int .i64 c] w fun e w' => e = .returned (.int .i64 (jx0 (x0, x1, x2, x3, x4) c)) ∧ Below w.heap.size w w' := by
 by_cases h : c ≤ x2
 ·have HV : Hid (jx0 (x0, x1, x2, x3, x4) c = 0) := by show jx0 _ c = 0; unfold jx0; exact if_pos h
  have e1 : decide (c ≤ x2) = true := decide_eq_true h; go_enter Tryz.func115, Tryz.ntmps115; go_wp2_with fail; go_ret; exact ⟨jx6 HV.out.symm, by go_grown⟩
 ·have e1 : decide (c ≤ x2) = false := decide_eq_false h
  have wz : IntKind.i64.wrap (c - x2) = c - x2 := by rw [IntKind.wrap_i64]; omega
  by_cases h4 : x3 < c - x2
  ·have HV : Hid (jx0 (x0, x1, x2, x3, x4) c = x3) := by show jx0 _ c = x3; unfold jx0; rw [if_neg h]; exact if_pos h4
   have e2 : decide (x3 < c - x2) = true := decide_eq_true h4; go_enter Tryz.func115, Tryz.ntmps115; go_wp2_with fail; go_ret; exact ⟨jx6 HV.out.symm, by go_grown⟩
  ·have HV : Hid (jx0 (x0, x1, x2, x3, x4) c = c - x2) := by show jx0 _ c = c - x2; unfold jx0; rw [if_neg h]; exact if_neg h4
   have e2 : decide (x3 < c - x2) = false := decide_eq_false h4; go_enter Tryz.func115, Tryz.ntmps115; go_wp2_with fail; go_ret; exact ⟨jx6 HV.out.symm, by go_grown⟩
theorem iweights (a b : Option Addr) (cap cb : Nat) (ns : List Nd) (ks : List Int) (w : World) (h : IsNd w a ns) (hb : jqc w b ks) (hk : ∀ z ∈ ks, ∃ j : Nat, z = (j : Int) ∧ j < ns.length) (hn : ks.length ≤ 1048576) (hnn : ns.length ≤ 1048576) :
  Calls Tryz.prog 119 #[.slice a ns.length cap, .slice b ks.length cb] w (OutI w (wk ns ks)) := by
 have hmk := run_make_row' (P := Tryz.prog) 33 3 (.int .i64 0) 8 Tryz.underlying33 jj4 rfl .i64 .i64 ks.length (by omega) (by omega)
 rcases hb with rfl | ⟨gb, ob, rfl, hcb⟩
 ·have hmk0 := run_make_row' (P := Tryz.prog) 33 3 (.int .i64 0) 8 Tryz.underlying33 jj4 rfl .i64 .i64 0 (by omega) (by omega)
  rw [show ((0 : Nat) : Int) = 0 from rfl] at hmk0; clear hmk; go_enter Tryz.func119, Tryz.ntmps119; go_wp2_with fail; refine wp_loop_rounds 1 ?_; rw [rounds_succ]; go_wp2_with fail; go_ret; exact ⟨_, rfl, OwnI.made (Below.refl _ w) 0 (by omega), by go_grown⟩
 ·have HC := Lib.hid h
  have HCB := Lib.hid hcb; have HK := Lib.hid hk; clear h hcb hk; go_enter Tryz.func119, Tryz.ntmps119; go_wp2_with fail; clear hmk
  go_loopw [13] (fun i wr => ∃ k : Nat, k ≤ ks.length ∧ i = .int .i64 k ∧ wr.rowIs w.heap.size 3 ks.length (fun j => if j < k then .int .i64 ((wk ns ks).getD j 0) else .int .i64 0) ∧ Below w.heap.size w wr) (fun i _ => ks.length - (intOf i).toNat)
  case atStart => exact ⟨0, Nat.zero_le _, rfl, (World.rowIs_made w (.int .i64 0) ks.length _).congr (fun i hi => by simp), by go_grown⟩
  case round =>
   obtain ⟨k, hk, rfl, hrow, hB⟩ := hrel
   by_cases hlt : k < ks.length
   ·have hc0 := HCB.out k hlt
    have hc := (hB.cell (p := ⟨gb, ob + k, none⟩) (World.block_lt_of_cell? w _ hc0)).trans hc0; obtain ⟨m, hm, hml⟩ := HK.out _ (jj7 hlt)
    have hd : wr.cell? ⟨w.heap.size, k, none⟩ = some (.int .i64 0) := by rw [hrow.cell hlt, if_neg (Nat.lt_irrefl k)]
    have hf := hrow.frozen k
    have hcon : ∀ z : Int, (wk ns ks).getD k 0 = z → (wr.setCell ⟨w.heap.size, k, none⟩ (.int .i64 z)).rowIs w.heap.size 3 ks.length (fun j => if j < k + 1 then .int .i64 ((wk ns ks).getD j 0) else .int .i64 0) := fun z hz =>
     (hrow.set k (.int .i64 z)).congr (fun j hj => by
      show (if j = k then Value.int .i64 z else if j < k then .int .i64 ((wk ns ks).getD j 0) else .int .i64 0) = _
      by_cases hjk : j = k
      ·subst hjk; rw [if_pos rfl, if_pos (by omega), hz]
      ·rw [if_neg hjk]
       by_cases hl : j < k
       ·rw [if_pos hl, if_pos (by omega)]
       ·rw [if_neg hl, if_neg (by omega)])
    have hcon2 := hcon _ (wk_get ns ks hlt); rw [hm, show ((m : Int)).toNat = m from by omega] at hcon2; rw [hm] at hc; have hnd : IsNd w a ns := HC.out
    rcases hnd with rfl | ⟨g, o, rfl, hcn⟩
    ·simp at hml
    have c1 := (nd_at hcn hB hml).2.1; clear hcon hc0 hcn hm; generalize (ns.getD m nd0).2.1 = z at c1 hcon2; have HR := Lib.hid hcon2; have HB := Lib.hid hB
    have b0 : (0 : Int) ≤ (m : Int) := by omega
    have b1 : (m : Int) < (ns.length : Int) := by omega
    clear hcon2 hrow hB
    go_wp2
    go_roundw
    case rel => exact ⟨k + 1, by omega, by go_num, HR.out, HB.out.setCell (Nat.le_refl _) _⟩
    case measure => simp [intOf]; omega
   ·have HR := Lib.hid hrow
    have HB := Lib.hid hB; clear hrow hB
    go_wp2
    go_ret; refine ⟨_, rfl, ?_, HB.out⟩; exact OwnI.of_row HR.out (wk_len ns ks) (fun j hj => by rw [if_pos (by omega)]) (Nat.le_refl _) hn
theorem row_own {w : World} {base g : Nat} {zs : List Int} (h : Row w g zs) (hb : base ≤ g) (hn : zs.length ≤ 1048576) : OwnI w base (.slice (some ⟨g, 0, none⟩) zs.length zs.length) zs :=
 OwnI.of_row h rfl (fun j hj => rfl) hb hn
theorem imidV (n : Int) (a : Option Addr) (cap : Nat) (ws : List Int) (w : World) (h : jqc w a ws) (hn : ws.length ≤ 1048576) :
  Calls Tryz.prog 159 #[.int .i64 n, .slice a ws.length cap] w (OutI w (if csB n ws = true then sa 2 n ws else [])) := by
 by_cases hc : csB n ws = true
 ·rw [if_pos hc]
  refine (imiddle n a cap ws w h hn hc).mono ?_; rintro e w' ⟨g, rfl, hg, hr, hB⟩; have := row_own hr hg (by rw [sa_len]; exact hn); rw [sa_len] at this; exact ⟨_, rfl, this, hB⟩
 ·rw [if_neg hc]
  refine (imiddle_no n a cap ws w h hn (by simpa using hc)).mono ?_; rintro e w' ⟨rfl, rfl⟩; exact outI_nil (Below.refl _ _)
theorem icanFlow (a : Option Addr) (cap : Nat) (ns : List Nd) (fl : Int) (w : World) (h : IsNd w a ns) (hn : ns.length ≤ 1048576) (hcap : ns.length ≤ cap) :
    Calls Tryz.prog 54 #[.slice a ns.length cap, .int .i64 fl] w fun e w' => e = .returned (.bool (flB ns fl)) ∧ Below w.heap.size w w' := by
  have VN := iVN a cap ns _ h hn hcap
  have CW := fun W => iwithin fl 500 W
  unfold flB
  cases hv : vnB ns with
  | false =>
    rw [hv] at VN; clear hv h; go_enter Tryz.func54, Tryz.ntmps54; go_wp2_with fail; refine VN.mono ?_; rintro e w1 ⟨rfl, C⟩; go_wp2_with fail; go_ret; exact ⟨rfl, C⟩
  | true =>
    rw [hv] at VN
    obtain ⟨t, ht⟩ : ∃ t, (decide (0 ≤ fl) && decide (fl ≤ 500)) = t := ⟨_, rfl⟩
    rw [ht] at CW ⊢; clear hv h ht; go_enter Tryz.func54, Tryz.ntmps54; go_wp2_with fail; refine VN.mono ?_; rintro e w1 ⟨rfl, C⟩; go_wp2_with fail; refine (CW _).mono ?_; rintro e w' ⟨rfl, rfl⟩; go_wp2_with fail; go_ret; exact ⟨by cases t <;> rfl, C⟩

def mkZ (n : Nat) (f : Nat → Int) : List Int := (List.range n).map f
theorem mkZ_len (n : Nat) (f : Nat → Int) : (mkZ n f).length = n := by unfold mkZ; simp
theorem mkZ_get {n : Nat} (f : Nat → Int) {i : Nat} (h : i < n) : (mkZ n f).getD i 0 = f i := by
 unfold mkZ; rw [List.getD_eq_getElem?_getD, List.getElem?_map, List.getElem?_range h]; rfl
theorem mkZ_ext {n : Nat} {f g : Nat → Int} (h : ∀ i, i < n → f i = g i) : mkZ n f = mkZ n g := by
 refine ext_z (by rw [mkZ_len, mkZ_len]) (fun i hi => ?_); rw [mkZ_len] at hi; rw [mkZ_get f hi, mkZ_get g hi, h i hi]
def accTo (cs : List Int) (d : Nat → Int) (m : Nat) : List Int := mkZ cs.length (fun j => if j < m then d j else cs.getD j 0)
theorem accTo_len (cs : List Int) (d : Nat → Int) (m : Nat) : (accTo cs d m).length = cs.length := by unfold accTo; rw [mkZ_len]
theorem accTo_zero (cs : List Int) (d : Nat → Int) : accTo cs d 0 = cs := by
 refine ext_z (accTo_len cs d 0) (fun i hi => ?_); rw [accTo_len] at hi; unfold accTo; rw [mkZ_get _ hi, if_neg (Nat.not_lt_zero _)]
theorem accTo_end {cs : List Int} {n : Nat} (d : Nat → Int) (h : cs.length = n) : accTo cs d n = mkZ n d := by
 unfold accTo; rw [h]; exact mkZ_ext (fun i hi => if_pos hi)
theorem accTo_own {cs : List Int} (d : Nat → Int) {m : Nat} (h : m < cs.length) : (accTo cs d m).getD m 0 = cs.getD m 0 := by
 unfold accTo; rw [mkZ_get _ h, if_neg (by omega)]
theorem accTo_succ {cs : List Int} (d : Nat → Int) {m : Nat} (h : m < cs.length) : (accTo cs d m).set m (d m) = accTo cs d (m + 1) := by
 refine ext_z (by rw [List.length_set, accTo_len, accTo_len]) (fun i hi => ?_); rw [List.length_set, accTo_len] at hi; rw [getD_setZ i _ (by rw [accTo_len]; exact h)]; unfold accTo; rw [mkZ_get _ hi, mkZ_get _ hi]
 by_cases e : i = m
 ·subst e; rw [if_pos rfl, if_pos (by omega)]
 ·rw [if_neg e]
  by_cases f : i < m
  ·rw [if_pos f, if_pos (by omega)]
  ·rw [if_neg f, if_neg (by omega)]
theorem repl_get (n j : Nat) : (List.replicate n (0 : Int)).getD j 0 = 0 := by
 rw [List.getD_eq_getElem?_getD, List.getElem?_replicate]; split <;> rfl
def unitsF (ns : List Nd) (k : Nat) (c : Int) : List Int := putTo (List.replicate ns.length 0) (jz7 ns (k : Int)) (giveV ns (k : Int) (jx0 (ns.getD k nd0) c)) (giveV ns (k : Int) (jx0 (ns.getD k nd0) c)).length
theorem unitsF_len (ns : List Nd) (k : Nat) (c : Int) : (unitsF ns k c).length = ns.length := by unfold unitsF; rw [putTo_len, List.length_replicate]
theorem unitsF_other {ns : List Nd} {k j : Nat} (c : Int) (h : (ns.getD j nd0).1 ≠ (k : Int)) : (unitsF ns k c).getD j 0 = 0 := by
 unfold unitsF; rw [putTo_other _ (fun i hi e => ?_), repl_get]; have hl := give_len ns (k : Int) (jx0 (ns.getD k nd0) c)
 obtain ⟨q, hq, _, hp⟩ := kid_at (ns := ns) (at_ := (k : Int)) (i := i) (by omega)
 rw [hq] at e
 have : q = j := by omega
 rw [this] at hp; exact h hp
theorem unitsF_kid {ns : List Nd} {k i : Nat} (c : Int) (hi : i < (jz7 ns (k : Int)).length) :
  (unitsF ns k c).getD ((jz7 ns (k : Int)).getD i 0).toNat 0 = if vwB (wts ns (k : Int)) = true then (sa 2 (jx0 (ns.getD k nd0) c) (wts ns (k : Int))).getD i 0 else 0 := by
 unfold unitsF
 by_cases hw : vwB (wts ns (k : Int)) = true
 ·have hg : giveV ns (k : Int) (jx0 (ns.getD k nd0) c) = sa 2 (jx0 (ns.getD k nd0) c) (wts ns (k : Int)) := if_pos hw
  have hlen : (sa 2 (jx0 (ns.getD k nd0) c) (wts ns (k : Int))).length = (jz7 ns (k : Int)).length := by rw [sa_len]; unfold wts; rw [wk_len]
  rw [if_pos hw, hg, hlen]; exact putTo_at (kid_ne (ns := ns) (at_ := (k : Int))) (fun i hi => by obtain ⟨q, hq, hql, _⟩ := kid_at hi; rw [hq, List.length_replicate]; omega) (i := i) _ hi (Nat.le_refl _)
 ·have hg : giveV ns (k : Int) (jx0 (ns.getD k nd0) c) = [] := if_neg hw
  rw [if_neg hw, hg]; exact repl_get _ _
theorem unitsF_bd {ns : List Nd} (hv : vnB ns = true) {k : Nat} (hk : k < ns.length) {c : Int} (hc : 0 ≤ c ∧ c ≤ 500) (j : Nat) : 0 ≤ (unitsF ns k c).getD j 0 ∧ (unitsF ns k c).getD j 0 ≤ c := by
 by_cases hp : j < ns.length ∧ (ns.getD j nd0).1 = (k : Int)
 ·obtain ⟨i, hi, he⟩ := kid_pos hp.2 hp.1
  have := unitsF_kid (ns := ns) c hi; rw [he, show ((j : Int)).toNat = j from by omega] at this; rw [this]
  split
  ·rename_i hw
   have hcs := csB_pass hv hk hc.1 hw; obtain ⟨_, _, hb⟩ := sa_facts hcs (step := 2) (by omega); have b1 := hb i (by unfold wts; rw [wk_len]; exact hi); obtain ⟨_, b, d, _⟩ := vn_at hv hk; have b2 := pass_bd d.1 hc.1 b.1
   omega
  ·omega
 ·by_cases hj : j < ns.length
  ·rw [unitsF_other c (fun e => hp ⟨hj, e⟩)]; omega
  ·rw [List.getD_eq_getElem?_getD, List.getElem?_eq_none (by rw [unitsF_len]; omega)]
   exact ⟨Int.le_refl _, hc.1⟩
def gTo (ns : List Nd) (T : List Int) (g : List Int → Nat → Nat → Int) : Nat → List Int
 | 0 => T
 | k + 1 => mkZ ns.length fun j => (gTo ns T g k).getD j 0 + g (gTo ns T g k) k j
theorem gTo_succ (ns : List Nd) (T : List Int) (g : List Int → Nat → Nat → Int) (k : Nat) : gTo ns T g (k + 1) = mkZ ns.length fun j => (gTo ns T g k).getD j 0 + g (gTo ns T g k) k j := rfl
def begT (n : Nat) (fl : Int) : List Int := (List.replicate n 0).set 0 fl
def gC (ns : List Nd) (cs : List Int) (k j : Nat) : Int := (unitsF ns k (cs.getD k 0)).getD j 0
theorem putTo_add {cs ks vs : List Int} {n : Nat} (hl : cs.length = n) (hz : ∀ i, i < ks.length → cs.getD (ks.getD i 0).toNat 0 = 0) (hd : ∀ i j, i < j → j < ks.length → (ks.getD i 0).toNat ≠ (ks.getD j 0).toNat) (hb : ∀ i, i < ks.length → (ks.getD i 0).toNat < n) (m : Nat) (hm : m ≤ ks.length) :
  putTo cs ks vs m = mkZ n fun j => cs.getD j 0 + (putTo (List.replicate n 0) ks vs m).getD j 0 := by
 refine ext_z (by rw [putTo_len, mkZ_len, hl]) (fun j hj => ?_); rw [putTo_len, hl] at hj; rw [mkZ_get _ hj]
 by_cases e : ∃ i, i < m ∧ (ks.getD i 0).toNat = j
 ·obtain ⟨i, hi, rfl⟩ := e
  rw [putTo_at hd (fun i hi => by rw [hl]; exact hb i hi) m hi hm, putTo_at hd (fun i hi => by rw [List.length_replicate]; exact hb i hi) m hi hm, hz i (by omega), Int.zero_add]
 ·rw [putTo_other m (fun i hi c => e ⟨i, hi, c⟩), putTo_other m (fun i hi c => e ⟨i, hi, c⟩), repl_get, Int.add_zero]
theorem kids_lt (ns : List Nd) (k : Int) : ∀ i, i < (jz7 ns k).length → ((jz7 ns k).getD i 0).toNat < ns.length := fun i hi => by
 obtain ⟨q, hq, hql, _⟩ := kid_at hi; rw [hq]; omega
theorem come_g {ns : List Nd} (hv : vnB ns = true) (fl : Int) : ∀ k, k ≤ ns.length → jz4 ns fl k = gTo ns (begT ns.length fl) (gC ns) k := by
  intro k
  induction k with
  | zero => intro _; rfl
  | succ k ih =>
    intro hk; rw [jv8, gTo_succ, ← ih (by omega)]; unfold stepC; rw [putTo_add (jxf ns fl k) (fun i hi => ?_) kid_ne (kids_lt ns _) _ (give_len _ _ _)]
    · rfl
    · obtain ⟨j, hj, hjl, hp⟩ := kid_at hi
      have b := vn_parI hv hjl; rw [hj, show ((j : Int)).toNat = j from by omega, comeTo_early k (fun m hm c => by omega), comeTo_zero ns fl j (by omega), if_neg (by omega)]
theorem come_next {ns : List Nd} (hv : vnB ns = true) (fl : Int) {k : Nat} (hk : k < ns.length) : jz4 ns fl (k + 1) = mkZ ns.length fun j => (jz4 ns fl k).getD j 0 + (unitsF ns k ((jz4 ns fl k).getD k 0)).getD j 0 := by
 rw [come_g hv fl (k + 1) (by omega), gTo_succ, ← come_g hv fl k (by omega)]; rfl
def gE (ns : List Nd) (ms : List Int) (_ : List Int) (k j : Nat) : Int := (unitsF ns k (ms.getD k 0)).getD j 0
theorem give_is {ns : List Nd} (hv : vnB ns = true) {k : Nat} (hk : k < ns.length) {c : Int} (hc : 0 ≤ c) : (if csB (jx0 (ns.getD k nd0) c) (wts ns (k : Int)) = true then sa 2 (jx0 (ns.getD k nd0) c) (wts ns (k : Int)) else []) = giveV ns (k : Int) (jx0 (ns.getD k nd0) c) := by
 unfold giveV
 by_cases hw : vwB (wts ns (k : Int)) = true
 ·rw [if_pos hw, if_pos (csB_pass hv hk hc hw)]
 ·rw [if_neg hw, if_neg (fun h => hw (jvb h).2)]
theorem iUnitsF (a : Option Addr) (cap : Nat) (ns : List Nd) (k : Nat) (c : Int) (w : World) (h : IsNd w a ns) (hn : ns.length ≤ 1048576) (hcap : ns.length ≤ cap) (hv : vnB ns = true) (hlt : k < ns.length) (hcb : 0 ≤ c ∧ c ≤ 500) :
  Calls Tryz.prog 116 #[.slice a ns.length cap, .int .i64 (k : Int), .int .i64 c] w (OutI w (unitsF ns k c)) := by
 have hmk := run_make_row' (P := Tryz.prog) 33 3 (.int .i64 0) 8 Tryz.underlying33 jj4 rfl .i64 .i64 ns.length (by omega) (by omega); have HH := Lib.hid h; have HV := Lib.hid hv; obtain ⟨l1, _, _⟩ := vn_is hv
 rcases h with rfl | ⟨g0, o, rfl, hc⟩
 ·exact absurd hlt (Nat.not_lt_zero _)
 have HC := Lib.hid hc; clear hc hv; have hM := OwnI.made (Below.refl w.heap.size w) ns.length hn
 obtain ⟨w1, hw1⟩ : ∃ w1, w.alloc (.cells (madeCells #[.int .i64 0] ns.length) 3) = w1 := ⟨_, rfl⟩
 have B1 : Below w.heap.size w w1 := by rw [← hw1]; exact (Below.refl w.heap.size w).alloc (Nat.le_refl _) _
 rw [hw1] at hM
 have hg1 : w.heap.size < w1.heap.size := by rw [← hw1]; simp
 have CK := iKids (some ⟨g0, o, none⟩) cap ns (k : Int) w1 (jx8 HH.out B1) hn hcap; rw [kids_yes HV.out (inN_is hlt)] at CK
 obtain ⟨g, hg⟩ : ∃ g, w.heap.size = g := ⟨_, rfl⟩
 have HM := Lib.hid hM; have HB1 := Lib.hid B1; have HW1 := Lib.hid hw1; clear hM B1; go_enter Tryz.func116, Tryz.ntmps116; go_wp2_with fail; clear hmk hw1; refine CK.mono ?_; rintro e w3 ⟨v9, rfl, hK, hB3⟩; obtain ⟨kb, kcp, rfl, hKI⟩ := hK.ints; have B3 := jq1 HB1.out hB3; have O3 := HM.out.of_block hB3; have s3 := hB3.size; obtain ⟨c0, c1, c2, c3, c4⟩ := nd_at HC.out B3 hlt; obtain ⟨q1, q2, q3, q4⟩ := vn_at HV.out hlt; have hgl := give_len ns (k : Int) (jx0 (ns.getD k nd0) c); have HGI := Lib.hid (give_is HV.out hlt (c := c) hcb.1); have HST : Hid (unitsF ns k c = putTo (List.replicate ns.length 0) (jz7 ns (k : Int)) (giveV ns (k : Int) (jx0 (ns.getD k nd0) c)) (giveV ns (k : Int) (jx0 (ns.getD k nd0) c)).length) := rfl
 have CP := fun W => ipassing (ns.getD k nd0).1 (ns.getD k nd0).2.1 (ns.getD k nd0).2.2.1 (ns.getD k nd0).2.2.2.1 (ns.getD k nd0).2.2.2.2 c W hcb q2 q3
 change ∀ W, Calls _ _ _ W (fun e w' => e = .returned (.int .i64 (jx0 (ns.getD k nd0) c)) ∧ Below W.heap.size W w') at CP; generalize ns.getD k nd0 = nd at c0 c1 c2 c3 c4 CP HGI HST hgl q2 q3; obtain ⟨x0, x1, x2, x3, x4⟩ := nd; dsimp only at c0 c1 c2 c3 c4 CP; generalize jx0 (x0, x1, x2, x3, x4) c = p at CP HGI HST hgl
 have hkm : ∀ z ∈ jz7 ns (k : Int), ∃ j : Nat, z = (j : Int) ∧ j < ns.length := fun z hz => by obtain ⟨j, a, b, _⟩ := kids_bd hz; exact ⟨j, a, b⟩
 have hkl := kids_len ns (k : Int)
 have k0 : (0 : Int) ≤ (k : Int) := by omega
 have k1 : (k : Int) < (ns.length : Int) := by omega
 have HO3 := Lib.hid O3; have HK3 := Lib.hid hK; have HB3 := Lib.hid B3; clear O3 hK B3 hB3 hKI CK q1 q2 q3 q4 hcb; go_wp2_with fail; refine (CP _).mono ?_; rintro e w4 ⟨rfl, hB4⟩; have B4 := jq1 HB3.out hB4; have O4 := HO3.out.of_block hB4; have K4 := HK3.out.of_block hB4; have s4 := hB4.size; have CW := iweights (some ⟨g0, o, none⟩) kb cap kcp ns (jz7 ns (k : Int)) w4 (jx8 HH.out B4) K4.at_ hkm (by omega) hn; have HO4 := Lib.hid O4; have HK4 := Lib.hid K4; have HB4 := Lib.hid B4; clear O4 K4 B4 hB4 CP c0 c1 c2 c3 c4; go_wp2_with fail; refine CW.mono ?_; rintro e w5 ⟨v41, rfl, hWt, hB5⟩; obtain ⟨wb, wcp, rfl, hWI⟩ := hWt.ints; have CM := imidV p wb wcp (wts ns (k : Int)) w5 hWI (by unfold wts; rw [wk_len]; omega); rw [HGI.out] at CM; have O5 := HO4.out.of_block hB5; have K5 := HK4.out.of_block hB5; have B5 := jq1 HB4.out hB5; have s5 := hB5.size; have HO5 := Lib.hid O5; have HK5 := Lib.hid K5; have HB5 := Lib.hid B5; clear O5 K5 B5 hB5 CW hWI hWt; go_wp2_with fail; refine CM.mono ?_; rintro e w6 ⟨v42, rfl, hG, hB6⟩; obtain ⟨gb, gcp, rfl, _⟩ := hG.ints; have O6 := HO5.out.of_block hB6; have K6 := HK5.out.of_block hB6; have B6 := jq1 HB5.out hB6; have s6 := hB6.size; have HKM := Lib.hid hkm; clear CM hB6 hkm HGI HO5 HK5 HB5 HO4 HK4 HB4 HO3 HK3 HB3 HM HB1; rw [hg] at O6 hg1; generalize jz7 ns (k : Int) = ks at K6 HKM hkl hgl HST; generalize giveV ns (k : Int) p = gv at hG hgl HST; have HOO := Lib.hid O6; have HKK := Lib.hid K6; have HGG := Lib.hid hG; have HBB := Lib.hid B6
 clear O6 K6 hG B6; have hrl : (List.replicate ns.length (0 : Int)).length = ns.length := List.length_replicate; generalize List.replicate ns.length (0 : Int) = zs at HOO HST hrl; go_wp2_with fail
 go_loopw [28] (fun i wr => ∃ m : Nat, m ≤ gv.length ∧ i = .int .i64 m ∧ Hid (OwnI wr g (.slice (some ⟨g, 0, none⟩) ns.length ns.length) (putTo zs ks gv m) ∧ w6.grownBy wr (some g))) (fun i _ => gv.length - (intOf i).toNat)
 case atStart => exact ⟨0, Nat.zero_le _, rfl, HOO.out, g_of (Below.refl _ _) _⟩
 case round =>
  obtain ⟨m, hm, rfl, HM⟩ := hrel
  by_cases hlm : m < gv.length
  ·have hka := (HKK.out.apart HM.out.2 (fun q hq => by have e := Option.some.inj hq; omega)).at_
   have hga2 := (HGG.out.apart HM.out.2 (fun q hq => by have e := Option.some.inj hq; omega)).at_
   rcases hka with rfl | ⟨gk, ok, rfl, hkc⟩
   ·have : gv.length ≤ 0 := hgl
    omega
   rcases hga2 with rfl | ⟨gg, og, rfl, hgc⟩
   ·simp at hlm
   have c1 := hkc m (by omega); have c2 := hgc m hlm; obtain ⟨j, hj, hjl⟩ := HKM.out _ (jj7 (zs := ks) (k := m) (by omega)); have hpl := putTo_len zs ks gv m; have c3 := HM.out.1.cell (j := j) (by omega); have c4 := HM.out.1.frozen j; have hst := HM.out.1.set_ j (gv.getD m 0); have hps := putTo_succ zs ks gv m; rw [hj, show ((j : Int)).toNat = j from by omega] at hps; rw [← hps] at hst; rw [hj] at c1
   have HS : Hid (OwnI (wr.setCell ⟨g, j, none⟩ (.int .i64 (gv.getD m 0))) g (.slice (some ⟨g, 0, none⟩) ns.length ns.length) (putTo zs ks gv (m + 1)) ∧ w6.grownBy (wr.setCell ⟨g, j, none⟩ (.int .i64 (gv.getD m 0))) (some g)) := ⟨hst, g_set2 HM.out.2⟩
   have b0 : (0 : Int) ≤ (j : Int) := by omega
   have b1 : (j : Int) < (ns.length : Int) := by omega
   have b2 : (m : Int) < (gv.length : Int) := by omega
   have b3 : (m : Int) < (ks.length : Int) := by omega
   have b4 : (0 : Int) ≤ (m : Int) := by omega
   generalize gv.getD m 0 = y at c2 HS; generalize (putTo zs ks gv m).getD j 0 = y3 at c3; clear hkc hgc hst hps hj hpl HM hrl; go_wp2_with fail
   go_roundw
   case rel => exact ⟨m + 1, by omega, by go_num, HS.out⟩
   case measure => simp [intOf]; omega
  ·have HE : Hid (OwnI wr g (.slice (some ⟨g, 0, none⟩) ns.length ns.length) (unitsF ns k c) ∧ Below w.heap.size w wr) := by
    refine ⟨?_, below_gv HBB.out HM.out.2 (fun q hq => by have e := Option.some.inj hq; omega)⟩; rw [HST.out]; have := HM.out.1; rw [show m = gv.length from by omega] at this; exact this
   clear HM hrl; go_wp2_with fail; go_ret; exact ⟨_, rfl, by rw [hg]; exact HE.out.1, HE.out.2⟩
theorem iFlows (a : Option Addr) (cap : Nat) (ns : List Nd) (fl : Int) (w : World) (h : IsNd w a ns) (hn : ns.length ≤ 1048576) (hcap : ns.length ≤ cap) :
    Calls Tryz.prog 56 #[.slice a ns.length cap, .int .i64 fl] w (OutI w (flowV ns fl)) := by
  have CF := icanFlow a cap ns fl w h hn hcap
  cases hb : flB ns fl with
  | false =>
    rw [hb] at CF; rw [flow_no hb]; clear hb h; go_enter Tryz.func56, Tryz.ntmps56; go_wp2_with fail; refine CF.mono ?_; rintro e w1 ⟨rfl, C⟩; go_wp2_with fail; go_ret; exact outI_nil C
  | true =>
  rw [hb] at CF; rw [flow_yes hb]; obtain ⟨hv, f0, f1⟩ := flB_is hb; obtain ⟨l1, l12, _⟩ := vn_is hv; have hmk := run_make_row' (P := Tryz.prog) 33 3 (.int .i64 0) 8 Tryz.underlying33 jj4 rfl .i64 .i64 ns.length (by omega) (by omega); have HH := Lib.hid h; have HV := Lib.hid hv
  rcases h with rfl | ⟨g0, o, rfl, hc⟩
  · simp at l1
  have i0 : (0 : Int) < (ns.length : Int) := by omega
  clear hc hb hv; go_enter Tryz.func56, Tryz.ntmps56; go_wp2_with fail; refine CF.mono ?_; rintro e w1 ⟨rfl, C⟩; clear CF; have hM := OwnI.made C ns.length hn; have hz := hM.cell (j := 0) (by rw [List.length_replicate]; omega); have hzf := hM.frozen 0; have hO0 := hM.set_ 0 fl
  obtain ⟨g, hg⟩ : ∃ g, w1.heap.size = g := ⟨_, rfl⟩
  have hgw : w.heap.size ≤ g := by rw [← hg]; exact (C).size
  rw [hg] at hz hzf hO0; rw [List.getD_eq_getElem?_getD, List.getElem?_replicate, if_pos (by omega)] at hz; dsimp only [Option.getD_some] at hz; have hB0 : Below w.heap.size w ((w1.alloc (.cells (madeCells #[.int .i64 0] ns.length) 3)).setCell ⟨g, 0, none⟩ (.int .i64 fl)) := ((C).alloc (C).size _).setCell (p := ⟨g, 0, none⟩) hgw _; rw [World.setCell_alloc_at _ _ _ _ _ hg.symm] at hO0 hB0; have HO0 := Lib.hid hO0; have HB0 := Lib.hid hB0; clear hM hO0 hB0; clear C; go_wp2_with fail; clear hmk hz hzf; clear hg
  go_loopw [21] (fun i wr => ∃ k : Nat, k ≤ ns.length ∧ i = .int .i64 k ∧ OwnI wr w.heap.size (.slice (some ⟨g, 0, none⟩) ns.length ns.length) (jz4 ns fl k) ∧ Below w.heap.size w wr) (fun i _ => ns.length - (intOf i).toNat)
  case atStart => exact ⟨0, Nat.zero_le _, rfl, HO0.out, HB0.out⟩
  case round =>
    clear HO0 HB0; obtain ⟨k, hk, rfl, hO, hB⟩ := hrel
    by_cases hlt : k < ns.length
    · have hgb := hO.blk
      have HBD : Hid (∀ j, 0 ≤ (jz4 ns fl k).getD j 0 ∧ (jz4 ns fl k).getD j 0 ≤ 500) := fun j => comeTo_bd HV.out ⟨f0, f1⟩ k hk j
      have hgc := hO.cell (j := k) (by rw [jxf]; exact hlt); have hcb := HBD.out k; have HNX := Lib.hid (come_next HV.out fl hlt)
      obtain ⟨c, hc⟩ : ∃ c, (jz4 ns fl k).getD k 0 = c := ⟨_, rfl⟩
      rw [hc] at hgc hcb HNX; clear hc; have CU := iUnitsF (some ⟨g0, o, none⟩) cap ns k c wr (jx8 HH.out hB) hn hcap HV.out hlt hcb; have HUB : Hid (∀ j, 0 ≤ (unitsF ns k c).getD j 0 ∧ (unitsF ns k c).getD j 0 ≤ c) := unitsF_bd HV.out hlt hcb; have hul : (unitsF ns k c).length = ns.length := unitsF_len ns k c; have HO := Lib.hid hO; have HB := Lib.hid hB
      have k0 : (0 : Int) ≤ (k : Int) := by omega
      have k1 : (k : Int) < (ns.length : Int) := by omega
      have hcl : (jz4 ns fl k).length = ns.length := jxf ns fl k; generalize unitsF ns k c = us at CU HNX HUB hul; generalize jz4 ns fl k = cs at HO HBD HNX hcl; have HUL := Lib.hid hul; have HCL := Lib.hid hcl; clear hO hB hcl hul; go_wp2_with fail; refine CU.mono ?_; rintro e w2 ⟨v, rfl, hU, C⟩; obtain ⟨ub, uc, rfl, _⟩ := hU.ints; have hO2 := HO.out.of_block C; have hB2 := jq1 HB.out C; have s2 := C.size; have HO2 := Lib.hid hO2; have HB2 := Lib.hid hB2; have HU := Lib.hid hU; clear hO2 hB2 hU C CU hgc HO HB; go_wp2_with fail
      go_loopw [32] (fun i wi => ∃ m : Nat, m ≤ us.length ∧ i = .int .i64 m ∧ Hid (OwnI wi w.heap.size (.slice (some ⟨g, 0, none⟩) ns.length ns.length) (accTo cs (fun j => cs.getD j 0 + us.getD j 0) m) ∧ w2.grownBy wi (some g))) (fun i _ => us.length - (intOf i).toNat)
      case atStart => exact ⟨0, Nat.zero_le _, rfl, by rw [accTo_zero]; exact HO2.out, g_of (Below.refl _ _) _⟩
      case round =>
        obtain ⟨m, hm, rfl, HM⟩ := hrel
        by_cases hlm : m < us.length
        · have hua := (HU.out.apart HM.out.2 (fun q hq => by have e := Option.some.inj hq; omega)).at_
          rcases hua with rfl | ⟨gu, ou, rfl, huc⟩
          · simp at hlm
          have c1 := huc m hlm
          have hml : m < cs.length := by have := HUL.out; have := HCL.out; omega
          have c3 := HM.out.1.cell (j := m) (by rw [accTo_len]; exact hml); rw [accTo_own _ hml] at c3; have c4 := HM.out.1.frozen m; have bu := HUB.out m; have bc := HBD.out m
          have HS : Hid (∀ z, cs.getD m 0 + us.getD m 0 = z → OwnI (wr.setCell ⟨g, m, none⟩ (.int .i64 z)) w.heap.size (.slice (some ⟨g, 0, none⟩) ns.length ns.length) (accTo cs (fun j => cs.getD j 0 + us.getD j 0) (m + 1)) ∧ w2.grownBy (wr.setCell ⟨g, m, none⟩ (.int .i64 z)) (some g)) := fun z hz => by
            have hst := HM.out.1.set_ m (cs.getD m 0 + us.getD m 0); rw [accTo_succ (fun j => cs.getD j 0 + us.getD j 0) hml] at hst; rw [hz] at hst; exact ⟨hst, g_set2 HM.out.2⟩
          have b1 : (m : Int) < (ns.length : Int) := by have := HUL.out; omega
          have b2 : (m : Int) < (us.length : Int) := by omega
          have b4 : (0 : Int) ≤ (m : Int) := by omega
          generalize us.getD m 0 = x at c1 HS bu; generalize cs.getD m 0 = y at c3 HS bc
          have wz : IntKind.i64.wrap (y + x) = y + x := by rw [IntKind.wrap_i64]; omega
          clear huc HM hml; go_wp2_with fail
          go_roundw
          case rel => exact ⟨m + 1, by omega, by go_num, HS.out _ rfl⟩
          case measure => simp [intOf]; omega
        · have HE : Hid (OwnI wr w.heap.size (.slice (some ⟨g, 0, none⟩) ns.length ns.length) (jz4 ns fl (k + 1)) ∧ Below w.heap.size w wr) := by
            refine ⟨?_, below_gv HB2.out HM.out.2 (fun q hq => by have e := Option.some.inj hq; omega)⟩; have := HM.out.1; have e1 := HUL.out; rw [HNX.out, ← accTo_end (cs := cs) _ HCL.out]; rw [show m = ns.length from by omega] at this; exact this
          clear HM; go_wp2_with fail
          go_roundw
          case rel => exact ⟨k + 1, by omega, by go_num, HE.out⟩
          case measure => simp [intOf]; omega
    · have HO := Lib.hid hO
      have HB := Lib.hid hB; clear hO hB; go_wp2_with fail; go_ret; exact ⟨_, rfl, by rw [show k = ns.length from by omega] at HO; exact HO.out, HB.out⟩
theorem iPassed (a : Option Addr) (cap : Nat) (ns : List Nd) (fl : Int) (w : World) (h : IsNd w a ns) (hn : ns.length ≤ 1048576) (hcap : ns.length ≤ cap) :
    Calls Tryz.prog 55 #[.slice a ns.length cap, .int .i64 fl] w (OutI w (passedV ns fl)) := by
  have CF := icanFlow a cap ns fl w h hn hcap
  cases hb : flB ns fl with
  | false =>
    rw [hb] at CF; rw [passed_no hb]; clear hb h; go_enter Tryz.func55, Tryz.ntmps55; go_wp2_with fail; refine CF.mono ?_; rintro e w1 ⟨rfl, C⟩; go_wp2_with fail; go_ret; exact outI_nil C
  | true =>
  rw [hb] at CF; rw [passed_yes hb]; obtain ⟨hv, f0, f1⟩ := flB_is hb; obtain ⟨l1, l12, _⟩ := vn_is hv; have hmk := run_make_row' (P := Tryz.prog) 33 3 (.int .i64 0) 8 Tryz.underlying33 jj4 rfl .i64 .i64 ns.length (by omega) (by omega); have HH := Lib.hid h; have HV := Lib.hid hv; have HB0 := Lib.hid hb
  rcases h with rfl | ⟨g0, o, rfl, hc⟩
  · simp at l1
  have HC := Lib.hid hc; clear hc hb hv; go_enter Tryz.func55, Tryz.ntmps55; go_wp2_with fail; refine CF.mono ?_; rintro e w1 ⟨rfl, C⟩; clear CF; have hM := OwnI.made C ns.length hn; have hB2 := C.alloc C.size (.cells (madeCells #[.int .i64 0] ns.length) 3)
  obtain ⟨g, hg⟩ : ∃ g, w1.heap.size = g := ⟨_, rfl⟩
  rw [hg] at hM; have HM := Lib.hid hM; have HB2 := Lib.hid hB2
  have hgw : w.heap.size ≤ g := by rw [← hg]; exact C.size
  clear hM hB2 C; go_wp2_with fail; clear hmk
  have HGZ : Hid (g < (w1.alloc (.cells (madeCells #[.int .i64 0] ns.length) 3)).heap.size) := by show g < _; rw [← hg]; simp
  generalize w1.alloc (.cells (madeCells #[.int .i64 0] ns.length) 3) = W1 at *; have CC := iFlows (some ⟨g0, o, none⟩) cap ns fl W1 (jx8 HH.out HB2.out) hn hcap; rw [flow_yes HB0.out] at CC; refine CC.mono ?_; rintro e w2 ⟨v17, rfl, hO, hB3⟩; obtain ⟨cb, cc, rfl, _⟩ := hO.ints; have hcl : (jj2 ns fl).length = ns.length := jxf ns fl _; rw [hcl] at hO ⊢; have hB := jq1 HB2.out hB3; have hM2 := HM.out.of_block hB3; rw [show List.replicate ns.length (0 : Int) = mixZ (jv4 ns fl) 0 from by rw [mix_none (fun i hi => absurd hi (Nat.not_lt_zero _)), passF_len]] at hM2; have hgz := HGZ.out; have hs3 := hB3.size; have HO := Lib.hid hO; have HB := Lib.hid hB; have HM2 := Lib.hid hM2; clear hO hB hM2 HM hB3 CC hg HGZ HB2; go_wp2_with fail
  obtain ⟨V, hV⟩ : ∃ V, V = w2 := ⟨_, rfl⟩
  subst hV
  go_loopw [19] (fun i wr => ∃ k : Nat, k ≤ ns.length ∧ i = .int .i64 k ∧ Hid (OwnI wr w.heap.size (.slice (some ⟨g, 0, none⟩) ns.length ns.length) (mixZ (jv4 ns fl) k) ∧ V.grownBy wr (some g))) (fun i _ => ns.length - (intOf i).toNat)
  case atStart => exact ⟨0, Nat.zero_le _, rfl, HM2.out, g_of (Below.refl _ _) _⟩
  case round =>
    clear HM2; obtain ⟨k, hk, rfl, HR⟩ := hrel; have hB := below_gv HB.out HR.out.2 (fun q hq => by have e := Option.some.inj hq; omega)
    by_cases hlt : k < ns.length
    · have hOa := (HO.out.apart HR.out.2 (fun q hq => by have e := Option.some.inj hq; omega)).at_
      rcases hOa with e | ⟨gc, oc, rfl, hcc⟩
      · rw [e] at hcl; simp at hcl; omega
      have hci := hcc k (by omega); obtain ⟨c0, c1, c2, c3, c4⟩ := nd_at HC.out hB hlt; obtain ⟨q1, q2, q3, q4⟩ := vn_at HV.out hlt; have hcb := come_bd HV.out ⟨f0, f1⟩ k; have hpg := passF_get ns fl hlt
      have CP := fun W => ipassing (ns.getD k nd0).1 (ns.getD k nd0).2.1 (ns.getD k nd0).2.2.1 (ns.getD k nd0).2.2.2.1 (ns.getD k nd0).2.2.2.2 ((jj2 ns fl).getD k 0) W hcb q2 q3
      change ∀ W, Calls _ _ _ W (fun e w' => e = .returned (.int .i64 (jx0 (ns.getD k nd0) ((jj2 ns fl).getD k 0))) ∧ Below W.heap.size W w') at CP; rw [← hpg] at CP; generalize (jj2 ns fl).getD k 0 = c at hci CP; generalize ns.getD k nd0 = nd at c0 c1 c2 c3 c4 CP; obtain ⟨x0, x1, x2, x3, x4⟩ := nd; dsimp only at c0 c1 c2 c3 c4 CP; have hms := mix_set (zs := jv4 ns fl) (k := k) (by rw [passF_len]; exact hlt); generalize (jv4 ns fl).getD k 0 = p at CP hms
      have k0 : (0 : Int) ≤ (k : Int) := by omega
      have k1 : (k : Int) < (ns.length : Int) := by omega
      have HMS := Lib.hid hms; clear hcc hcb hpg q1 q2 q3 q4 hms hB; go_wp2_with fail; refine (CP _).mono ?_; rintro e wq ⟨rfl, hb⟩; have hR2 := HR.out.1.of_block hb; have hG2 := jqd HR.out.2 (g_of hb (some g)); have hd := hR2.cell (j := k) (by rw [mix_len, passF_len]; exact hlt); have hf := hR2.frozen k; have hst := hR2.set_ k p; rw [HMS.out] at hst
      have HS : Hid (OwnI (wq.setCell ⟨g, k, none⟩ (.int .i64 p)) w.heap.size (.slice (some ⟨g, 0, none⟩) ns.length ns.length) (mixZ (jv4 ns fl) (k + 1)) ∧ V.grownBy (wq.setCell ⟨g, k, none⟩ (.int .i64 p)) (some g)) := ⟨hst, g_set2 hG2⟩
      generalize (mixZ (jv4 ns fl) k).getD k 0 = y at hd; clear hR2 hG2 hst hb CP c0 c1 c2 c3 c4 hci; go_wp2_with fail
      go_roundw
      case rel => exact ⟨k + 1, by omega, by go_num, HS.out⟩
      case measure => simp [intOf]; omega
    · have HE : Hid (OwnI wr w.heap.size (.slice (some ⟨g, 0, none⟩) ns.length ns.length) (jv4 ns fl) ∧ Below w.heap.size w wr) := by
        refine ⟨?_, hB⟩; have := HR.out.1; rw [mix_all (by rw [passF_len]; omega)] at this; exact this
      clear HR hB; go_wp2_with fail; go_ret; exact ⟨_, rfl, HE.out⟩
theorem iShut (a : Option Addr) (cap : Nat) (ns : List Nd) (k : Nat) (w : World) (h : IsNd w a ns) (hn : ns.length ≤ 1048576) (hcap : ns.length ≤ cap) (hv : vnB ns = true) (hk : k < ns.length) :
  Calls Tryz.prog 57 #[.slice a ns.length cap, .int .i64 (k : Int)] w fun e w' => e = .returned (.bool (shB ns (k : Int))) ∧ Below w.heap.size w w' := by
 have CK := iKids a cap ns (k : Int) w h hn hcap; rw [kids_yes hv (inN_is hk)] at CK; have hkl := kids_len ns (k : Int)
 have CW := fun (W : World) (b : Option Addr) (c : Nat) (hW : Below w.heap.size w W) (hb : jqc W b (jz7 ns (k : Int))) => iweights a b cap c ns (jz7 ns (k : Int)) W (jx8 h hW) hb (fun z hz => by obtain ⟨j, x, y, _⟩ := kids_bd hz; exact ⟨j, x, y⟩) (by omega) hn
 change ∀ W b c, _ → _ → Calls _ _ _ W (OutI W (wts ns (k : Int))) at CW
 have CS := fun (W : World) (b : Option Addr) (c : Nat) (hb : jqc W b (wts ns (k : Int))) => isum b c (wts ns (k : Int)) W hb (by have := wts_len hv (k : Int); omega) (fun z hz => by have := wts_bd hv (k : Int) z hz; omega)
 have HS : Hid (shB ns (k : Int) = (decide (0 < (jz7 ns (k : Int)).length) && ((wts ns (k : Int)).sum == 0))) := rfl; have HCW := Lib.hid CW; have HCS := Lib.hid CS; clear CW CS h hv; generalize wts ns (k : Int) = ws at HCW HCS HS; go_enter Tryz.func57, Tryz.ntmps57; go_wp2_with fail; refine CK.mono ?_; rintro e w1 ⟨v5, rfl, hO, hB⟩; obtain ⟨b, c, rfl, hI⟩ := hO.ints; have CW := HCW.out w1 b c hB hI; clear CK hO hI
 by_cases hz : (jz7 ns (k : Int)).length = 0
 ·have HE : Hid (shB ns (k : Int) = false) := by rw [HS.out, decide_eq_false (by omega)]; rfl
  have e1 : decide (0 < ((jz7 ns (k : Int)).length : Int)) = false := decide_eq_false (by omega); have e2 : decide (0 < (jz7 ns (k : Int)).length) = false := decide_eq_false (by omega); generalize (jz7 ns (k : Int)).length = q at hz e1 e2 CW; subst hz; have HB := Lib.hid hB; clear CW hB; go_wp2_with fail; go_ret; exact ⟨jq4 HE.out.symm, HB.out⟩
 ·have HE : Hid (shB ns (k : Int) = (ws.sum == 0)) := by rw [HS.out, decide_eq_true (by omega)]; rfl
  have e1 : decide (0 < ((jz7 ns (k : Int)).length : Int)) = true := decide_eq_true (by omega); have e2 : decide (0 < (jz7 ns (k : Int)).length) = true := decide_eq_true (by omega)
  have e3 : 0 < (jz7 ns (k : Int)).length := by omega
  generalize (jz7 ns (k : Int)).length = q at hz e1 e2 e3 CW; have HB := Lib.hid hB; clear hB; go_wp2_with fail; refine CW.mono ?_; rintro e w2 ⟨v15, rfl, hW, hB2⟩; obtain ⟨b2, c2, rfl, hI2⟩ := hW.ints; have CS := HCS.out w2 b2 c2 hI2; have HB2 := Lib.hid (jq1 HB.out hB2); clear CW hW hI2 hB2; go_wp2_with fail; refine CS.mono ?_; rintro e w' ⟨rfl, rfl⟩
  obtain ⟨s, hs⟩ : ∃ s, ws.sum = s := ⟨_, rfl⟩
  rw [hs] at HE ⊢; clear CS hs
  by_cases h0 : s = 0
  ·subst h0
   go_wp2_with fail; go_ret; exact ⟨jq4 HE.out.symm, HB2.out⟩
  ·have e4 : (s == 0) = false := by simpa using h0
   go_wp2_with fail; go_ret; exact ⟨jq4 (HE.out.trans e4).symm, HB2.out⟩
theorem iLost (a : Option Addr) (cap : Nat) (ns : List Nd) (fl : Int) (w : World) (h : IsNd w a ns) (hn : ns.length ≤ 1048576) (hcap : ns.length ≤ cap) :
    Calls Tryz.prog 18 #[.slice a ns.length cap, .int .i64 fl] w fun e w' => e = .returned (.int .i64 (jqj ns fl)) ∧ Below w.heap.size w w' := by
  have CF := icanFlow a cap ns fl w h hn hcap
  cases hb : flB ns fl with
  | false =>
    rw [hb] at CF; rw [lost_no hb]; clear hb h; go_enter Tryz.func18, Tryz.ntmps18; go_wp2_with fail; refine CF.mono ?_; rintro e w1 ⟨rfl, C⟩; go_wp2_with fail; go_ret; exact ⟨rfl, C⟩
  | true =>
  rw [hb] at CF; rw [lost_yes hb]; obtain ⟨hv, f0, f1⟩ := flB_is hb; obtain ⟨l1, l12, _⟩ := vn_is hv
  have CP := fun (W : World) (hW : Below w.heap.size w W) => (by have := iPassed a cap ns fl W (jx8 h hW) hn hcap; rw [passed_yes hb] at this; exact this : Calls Tryz.prog 55 #[.slice a ns.length cap, .int .i64 fl] W (OutI W (jv4 ns fl)))
  have CC := fun (W : World) (hW : Below w.heap.size w W) => (by have := iFlows a cap ns fl W (jx8 h hW) hn hcap; rw [flow_yes hb] at this; exact this : Calls Tryz.prog 56 #[.slice a ns.length cap, .int .i64 fl] W (OutI W (jj2 ns fl)))
  have CS := fun (W : World) (hW : Below w.heap.size w W) (k : Nat) (hk : k < ns.length) => iShut a cap ns k W (jx8 h hW) hn hcap hv hk
  have HV := Lib.hid hv; have HCC := Lib.hid CC; have HCS := Lib.hid CS; have HCP := Lib.hid CP; clear hb hv h CC CS CP; go_enter Tryz.func18, Tryz.ntmps18; go_wp2_with fail; refine CF.mono ?_; rintro e w1 ⟨rfl, C⟩; have CP := HCP.out w1 C; have H1 := Lib.hid C; clear CF C; go_wp2_with fail; refine CP.mono ?_; rintro e w2 ⟨v5, rfl, hP, hB2⟩; obtain ⟨pb, pc, rfl, _⟩ := hP.ints; have hpl := passF_len ns fl; rw [hpl] at hP ⊢; have H2 := Lib.hid (jq1 H1.out hB2); have CC := HCC.out w2 H2.out; have HP := Lib.hid hP; clear CP hP hB2 H1; go_wp2_with fail; refine CC.mono ?_; rintro e w3 ⟨v18, rfl, hC, hB3⟩; obtain ⟨cb, cc, rfl, _⟩ := hC.ints; have hcl : (jj2 ns fl).length = ns.length := jxf ns fl _; rw [hcl] at hC ⊢; have H3 := Lib.hid (jq1 H2.out hB3); have HP3 := Lib.hid (HP.out.of_block hB3); have HC3 := Lib.hid hC; clear CC hC hB3 HP H2; go_wp2_with fail
  obtain ⟨V, hV⟩ : ∃ V, V = w3 := ⟨_, rfl⟩
  subst hV
  go_loopw [6, 20] (fun s i wr => ∃ k : Nat, k ≤ ns.length ∧ i = .int .i64 k ∧ s = .int .i64 (lostTo ns fl k) ∧ Below V.heap.size V wr) (fun _ i _ => ns.length - (intOf i).toNat)
  case atStart => exact ⟨0, Nat.zero_le _, rfl, rfl, Below.refl _ _⟩
  case round =>
    obtain ⟨k, hk, rfl, rfl, hB⟩ := hrel; have hlb := lost_bd HV.out ⟨f0, f1⟩ k hk
    by_cases hlt : k < ns.length
    · rcases (HP3.out.of_block hB).at_ with e | ⟨gp, op, rfl, hpp⟩
      · rw [e] at hpl; simp at hpl; omega
      rcases (HC3.out.of_block hB).at_ with e | ⟨gc, oc, rfl, hcc⟩
      · rw [e] at hcl; simp at hcl; omega
      have c1 := hpp k (by omega); have c2 := hcc k (by omega); have hcb := come_bd HV.out ⟨f0, f1⟩ k; have hpb := passF_bd HV.out ⟨f0, f1⟩ hlt; have CS := HCS.out wr (jq1 H3.out hB) k hlt; have hls := lostTo_succ ns fl k; unfold lossAt at hls; generalize (jv4 ns fl).getD k 0 = p at c1 hpb hls; generalize (jj2 ns fl).getD k 0 = c at c2 hcb hls hpb; generalize lostTo ns fl k = s at hlb hls
      have k0 : (0 : Int) ≤ (k : Int) := by omega
      have k1 : (k : Int) < (ns.length : Int) := by omega
      have c3 : ∀ W, Below wr.heap.size wr W → W.cell? ⟨gp, op + k, none⟩ = some (.int .i64 p) := fun W hW => (hW.cell (World.block_lt_of_cell? wr _ c1)).trans c1
      have HC1 := Lib.hid c3; have HB := Lib.hid hB
      have hs12 : s ≤ 6000 := by omega
      have hs0 : 0 ≤ s := hlb.1; clear hpp hcc c3 hB hlb
      cases hsh : shB ns (k : Int) with
      | false =>
        rw [hsh] at CS hls
        have HL : Hid (lostTo ns fl (k + 1) = s + c - p) := by rw [hls]; show s + (c - p + if false = true then p else 0) = s + c - p; rw [if_neg (by simp)]; omega
        clear hls hsh; go_wp2_with fail; refine CS.mono ?_; rintro e w5 ⟨rfl, hb5⟩; have HB5 := Lib.hid (jq1 HB.out hb5); clear hb5 CS; go_wp2_with fail
        go_roundw
        case rel => exact ⟨k + 1, by omega, by go_num, by rw [HL.out], HB5.out⟩
        case measure => simp [intOf]; omega
      | true =>
        rw [hsh] at CS hls
        have HL : Hid (lostTo ns fl (k + 1) = s + c) := by rw [hls]; show s + (c - p + if true = true then p else 0) = s + c; rw [if_pos rfl]; omega
        clear hls hsh; go_wp2_with fail; refine CS.mono ?_; rintro e w5 ⟨rfl, hb5⟩; have c5 := HC1.out w5 hb5; have HB5 := Lib.hid (jq1 HB.out hb5); clear hb5 CS c1 c2; go_wp2_with fail
        go_roundw
        case rel => exact ⟨k + 1, by omega, by go_num, by rw [HL.out], HB5.out⟩
        case measure => simp [intOf]; omega
    · have H4 := Lib.hid (jq1 H3.out hB)
      clear hB; go_wp2_with fail; go_ret; exact ⟨jx6 (by rw [show k = ns.length from by omega]), H4.out⟩
theorem iWhoAt (a : Option Addr) (cap : Nat) (ts : List Tn) (t : Int) (w : World) (h : IsTn w a ts) (hn : ts.length ≤ 1048576) (hc : ts.length ≤ cap) (wt : (Lit.int .i64 t).wf = true) :
    Calls Tryz.prog 16 #[.slice a ts.length cap, .int .i64 t] w fun e w' => e = .returned (.int .i64 (whoV ts t)) ∧ Below w.heap.size w w' := by
  have IV := iVT a cap ts w h hn; have H := Lib.hid h
  cases hv : vtB ts with
  | false =>
    have HP : Hid (whoV ts t = -1) := by show whoV ts t = -1; unfold whoV; rw [hv]; rfl
    rw [hv] at IV; clear hv h; go_enter Tryz.func16, Tryz.ntmps16; go_wp2_with fail; refine IV.mono ?_; rintro e w1 ⟨rfl, C⟩; go_wp2_with fail; go_ret; exact ⟨jx6 HP.out.symm, C⟩
  | true =>
    obtain ⟨l1, l2, ho, s0, s1⟩ := vt_is hv
    obtain ⟨N, hN⟩ : ∃ N, (sumT ts).toNat = N := ⟨_, rfl⟩
    have IO := fun W hW => iownersN a cap ts W hW hv N hN
    have HN := Lib.hid hN
    have N1 : 1 ≤ N := by omega
    have N2 : N ≤ 336 := by omega
    have HS := Lib.hid s0; rw [hv] at IV
    cases hb : (decide (0 ≤ t) && decide (t ≤ 5000)) with
    | false =>
      have HP : Hid (whoV ts t = -1) := by show whoV ts t = -1; unfold whoV; rw [hv, hb]; rfl
      have ht : t < 0 ∨ 5000 < t := by
        have : ¬ (0 ≤ t ∧ t ≤ 5000) := fun c => by rw [decide_eq_true c.1, decide_eq_true c.2] at hb; cases hb
        omega
      clear hv h hb ho hN s0 s1; go_enter Tryz.func16, Tryz.ntmps16; go_wp2_with fail; refine IV.mono ?_; rintro e w1 ⟨rfl, C⟩; go_wp2_with fail; refine (itime_no t _ ht).mono ?_; rintro e w' ⟨rfl, rfl⟩; go_wp2_with fail; go_ret; exact ⟨jx6 HP.out.symm, C⟩
    | true =>
      have HP : Hid (whoV ts t = whoM ts t) := by show whoV ts t = _; unfold whoV; rw [hv, hb]; rfl
      simp only [Bool.and_eq_true, decide_eq_true_eq] at hb; obtain ⟨t0, t1⟩ := hb; clear hv h ho hN s0 s1; go_enter Tryz.func16, Tryz.ntmps16; go_wp2_with fail; refine IV.mono ?_; rintro e w1 ⟨rfl, C⟩; have HB := Lib.hid C; clear C; go_wp2_with fail; refine (itime_yes t _ t0 t1).mono ?_; rintro e w' ⟨rfl, rfl⟩; go_wp2_with fail; refine (IO _ (tn_below H.out HB.out)).mono ?_; rintro e w2 ⟨g, rfl, R, D⟩; have HD := Lib.hid (jq1 HB.out D); obtain ⟨q, hq, hqN, hcell⟩ := who_cell R HN.out HS.out t0
      have i0 : (0 : Int) ≤ (q : Int) := by omega
      have i1 : (q : Int) < (N : Int) := by omega
      have n0 : (0 : Int) < (N : Int) := by omega
      clear D R; go_wp2_with fail; go_ret; exact ⟨jx6 HP.out.symm, HD.out⟩
def IsDd (w : World) (g p : Nat) (x : Dd) : Prop := ∃ (A : Option Addr) (cz : Nat), w.cell? ⟨g, p, none⟩ = some (.int .i64 x.k) ∧ w.cell? ⟨g, p + 1, none⟩ = some (.int .i64 x.o) ∧ w.cell? ⟨g, p + 2, none⟩ = some (.int .i64 x.t) ∧ w.cell? ⟨g, p + 3, none⟩ = some (.int .i64 x.n) ∧ w.cell? ⟨g, p + 4, none⟩ = some (.int .i64 x.d) ∧ w.cell? ⟨g, p + 5, none⟩ = some (.slice A x.zs.length cz) ∧ jqc w A x.zs ∧ x.zs.length ≤ 1048576 ∧ x.zs.length ≤ cz
theorem dd_below {w w' : World} {g p : Nat} {x : Dd} (h : IsDd w g p x) (hB : Below w.heap.size w w') : IsDd w' g p x := by
 obtain ⟨A, cz, c0, c1, c2, c3, c4, c5, hi, hn, hc⟩ := h
 have kp : ∀ q v, w.cell? ⟨g, q, none⟩ = some v → w'.cell? ⟨g, q, none⟩ = some v := fun q v c => (hB.cell (p := ⟨g, q, none⟩) (World.block_lt_of_cell? w _ c)).trans c
 exact ⟨A, cz, kp _ _ c0, kp _ _ c1, kp _ _ c2, kp _ _ c3, kp _ _ c4, kp _ _ c5, jqf hi hB, hn, hc⟩
def IsDds (w : World) (a : Option Addr) (ds : List Dd) : Prop := ds = [] ∨ ∃ g o, a = some ⟨g, o, none⟩ ∧ ∀ i, i < ds.length → IsDd w g (o + i * 6) (ds.getD i dd0)
theorem iareA (a : Option Addr) (cap : Nat) (ac : List Ac) (w : World) (h : IsAc w a ac) (hn : ac.length ≤ 1048576) :
    Calls Tryz.prog 49 #[.slice a ac.length cap] w fun e w' => e = .returned (.bool (acB ac)) ∧ Below w.heap.size w w' := by
  rcases h with rfl | ⟨g, o, rfl, hc⟩
  · go_enter Tryz.func49, Tryz.ntmps49
    go_wp2_with fail
    go_rounds 1
    go_ret; exact ⟨rfl, by go_grown⟩
  · have HC := Lib.hid hc
    clear hc; go_enter Tryz.func49, Tryz.ntmps49; go_wp2_with fail
    go_loopw [3, 8] (fun l i wr => ∃ k : Nat, k ≤ ac.length ∧ i = .int .i64 k ∧ l = .int .i64 (lastA ac k) ∧ Hid (∀ j, j < k → okAc ac j = true) ∧ Below w.heap.size w wr) (fun _ i _ => ac.length - (intOf i).toNat)
    case atStart => exact ⟨0, Nat.zero_le _, rfl, rfl, (fun j hj => absurd hj (Nat.not_lt_zero _)), by go_grown⟩
    case round =>
      obtain ⟨k, hk, rfl, rfl, HA, hB⟩ := hrel
      by_cases hlt : k < ac.length
      · obtain ⟨x0, x1⟩ := ac_at HC.out hB hlt
        have HN := Lib.hid (acB_no (ac := ac) hlt); have HY := Lib.hid (fun e => jj5 (f := okAc ac) HA.out ((okAc_last ac k).2 e)); have HE : Hid (lastA ac (k + 1) = (ac.getD k ac0).1) := rfl; generalize lastA ac k = l at HN HY ⊢; generalize ac.getD k ac0 = q at x0 x1 HN HY HE; obtain ⟨x, y⟩ := q; dsimp only at x0 x1; have HB := Lib.hid hB; clear hB
        by_cases h1 : x ≤ l
        · have e1 : decide (x ≤ l) = true := decide_eq_true h1
          have hv : Hid (acB ac = false) := HN.out (fun c => by have := c.1; dsimp only at this; omega); go_wp2_with fail; go_ret; exact ⟨jq4 hv.out.symm, HB.out.alloc HB.out.size _⟩
        have e1 : decide (x ≤ l) = false := decide_eq_false h1
        obtain ⟨b2, hb2⟩ : ∃ b, inB3 x 1 999 = b := ⟨_, rfl⟩
        have IO := fun W => iowner3 x W
        rw [hb2] at IO
        cases b2 with
        | false =>
          have hv : Hid (acB ac = false) := HN.out (fun c => by have h3 := inB3_no hb2; have h4 := c.2.1; have h5 := c.2.2.1; dsimp only at h4 h5; omega); go_wp2_with fail; refine (IO _).mono ?_; rintro e w' ⟨rfl, rfl⟩; go_wp2_with fail; go_ret; exact ⟨jq4 hv.out.symm, HB.out.alloc HB.out.size _⟩
        | true =>
          by_cases h3 : y < 1
          · have d3 : decide (y < 1) = true := decide_eq_true h3
            have hv : Hid (acB ac = false) := HN.out (fun c => by have h4 := c.2.2.2.1; dsimp only at h4; omega); go_wp2_with fail; refine (IO _).mono ?_; rintro e w' ⟨rfl, rfl⟩; go_wp2_with fail; go_ret; exact ⟨jq4 hv.out.symm, HB.out.alloc HB.out.size _⟩
          have d3 : decide (y < 1) = false := decide_eq_false h3
          by_cases h4 : 1000000 < y
          · have d4 : decide (1000000 < y) = true := decide_eq_true h4
            have hv : Hid (acB ac = false) := HN.out (fun c => by have h4 := c.2.2.2.2; dsimp only at h4; omega); go_wp2_with fail; refine (IO _).mono ?_; rintro e w' ⟨rfl, rfl⟩; go_wp2_with fail; go_ret; exact ⟨jq4 hv.out.symm, HB.out.alloc HB.out.size _⟩
          have d4 : decide (1000000 < y) = false := decide_eq_false h4; have HY2 := Lib.hid (HY.out ⟨by dsimp only; omega, (jzd hb2).1, (jzd hb2).2, by dsimp only; omega, by dsimp only; omega⟩); go_wp2_with fail; refine (IO _).mono ?_; rintro e w' ⟨rfl, rfl⟩; go_wp2_with fail
          go_roundw
          case rel => exact ⟨k + 1, by omega, by go_num, by rw [HE.out], HY2.out, HB.out.alloc HB.out.size _⟩
          case measure => simp [intOf]; omega
      · have HE : Hid (acB ac = true) := jv5 (fun j hj => HA.out j (by omega))
        go_wp2_with fail; go_ret; exact ⟨jq4 HE.out.symm, hB⟩
theorem iunits (a : Option Addr) (cap : Nat) (ac : List Ac) (w : World) (h : IsAc w a ac) (hn : ac.length ≤ 1048576) (hv : acB ac = true) :
  Calls Tryz.prog 52 #[.slice a ac.length cap] w fun e w' => e = .returned (.int .i64 (acS ac ac.length)) ∧ Below w.heap.size w w' := by
 rcases h with rfl | ⟨g, o, rfl, hc⟩
 ·go_enter Tryz.func52, Tryz.ntmps52
  go_wp2_with fail
  go_rounds 1
  go_ret; exact ⟨rfl, by go_grown⟩
 ·have HC := Lib.hid hc
  have HB := Lib.hid (acS_bd hv); have HV := Lib.hid hv; clear hc hv; go_enter Tryz.func52, Tryz.ntmps52; go_wp2_with fail
  go_loopw [3, 8] (fun s i wr => ∃ k : Nat, k ≤ ac.length ∧ i = .int .i64 k ∧ s = .int .i64 (acS ac k) ∧ Below w.heap.size w wr) (fun _ i _ => ac.length - (intOf i).toNat)
  case atStart => exact ⟨0, Nat.zero_le _, rfl, rfl, by go_grown⟩
  case round =>
   obtain ⟨k, hk, rfl, rfl, hB⟩ := hrel; obtain ⟨b0, b1⟩ := HB.out k hk
   by_cases hlt : k < ac.length
   ·obtain ⟨x0, x1⟩ := ac_at HC.out hB hlt
    have ht : acS ac (k + 1) = acS ac k + (ac.getD k ac0).2 := rfl; obtain ⟨_, _, z0, z1, _⟩ := (okAc_iff ac k).1 (acB_at HV.out hlt); generalize ac.getD k ac0 = hh at x0 x1 ht z0 z1; obtain ⟨x, y⟩ := hh; dsimp only at x0 x1 ht z0 z1; generalize acS ac k = s at ht b0 b1; have HT := Lib.hid ht; have HBl := Lib.hid hB; clear ht hB
    go_wp2
    go_roundw
    case rel => exact ⟨k + 1, by omega, by go_num, by rw [HT.out], HBl.out.alloc HBl.out.size _⟩
    case measure => simp [intOf]; omega
   ·obtain rfl : k = ac.length := by omega
    go_wp2
    go_ret; exact ⟨rfl, hB⟩
theorem iVTw (p : TA) (t : Tw) (w : World) (h : IsTw w p t) :
    Calls Tryz.prog 14 #[twV p t] w fun e w' => e = .returned (.bool (twB t)) ∧ Below w.heap.size w w' := by
  obtain ⟨a1, c1, a2, c2, a3, c3, a4, c4⟩ := p; obtain ⟨hs, ts, ns, r, hd, ac, rt, tm, ls, cm⟩ := t; obtain ⟨h1, h2, h3, h4, n1, n2, n3, n4, k1, k2, k3, k4⟩ := h; dsimp only at h1 h2 h3 h4 n1 n2 n3 n4 k1 k2 k3 k4
  have C1 := fun W (hW : Below w.heap.size w W) => iVL a1 c1 hs W (jqi h1 hW) n1
  have C2 := fun W (hW : Below w.heap.size w W) => iVT a2 c2 ts W (tn_below h2 hW) n2
  have C3 := fun W (hW : Below w.heap.size w W) => iVN a3 c3 ns W (jx8 h3 hW) n3 k3
  have C4 := fun W => iVB r hd W
  have C5 := fun W (hW : Below w.heap.size w W) => iareA a4 c4 ac W (ac_below h4 hW) n4
  have C6 := fun W (hW : Below w.heap.size w W) (hv : acB ac = true) => iunits a4 c4 ac W (ac_below h4 hW) n4 hv
  obtain ⟨R, hR⟩ : ∃ R, twB ⟨hs, ts, ns, r, hd, ac, rt, tm, ls, cm⟩ = R := ⟨_, rfl⟩
  rw [hR]; unfold twB at hR; dsimp only at hR; have HS5 := Lib.hid (fun (hv : acB ac = true) => acS_bd hv ac.length (Nat.le_refl _))
  obtain ⟨s, hs_⟩ : ∃ s, acS ac ac.length = s := ⟨_, rfl⟩
  rw [hs_] at HS5 C6 hR
  obtain ⟨b1, e1⟩ : ∃ b, vlR hs = b := ⟨_, rfl⟩
  obtain ⟨b2, e2⟩ : ∃ b, vtB ts = b := ⟨_, rfl⟩
  obtain ⟨b3, e3⟩ : ∃ b, vnB ns = b := ⟨_, rfl⟩
  obtain ⟨b4, e4⟩ : ∃ b, vbB r hd = b := ⟨_, rfl⟩
  obtain ⟨b5, e5⟩ : ∃ b, acB ac = b := ⟨_, rfl⟩
  obtain ⟨b6, e6⟩ : ∃ b, inB3 rt 0 500 = b := ⟨_, rfl⟩
  obtain ⟨b7, e7⟩ : ∃ b, inB3 tm 0 5000 = b := ⟨_, rfl⟩
  obtain ⟨b8, e8⟩ : ∃ b, inB3 ls 0 1000000 = b := ⟨_, rfl⟩
  obtain ⟨b9, e9⟩ : ∃ b, inB3 cm 0 1000000 = b := ⟨_, rfl⟩
  rw [e1] at C1 hR; rw [e2] at C2 hR; rw [e3] at C3 hR; rw [e4] at C4 hR; rw [e5] at C5 hR; rw [e6, e7, e8, e9] at hR; have E4 := Lib.hid e4; have E5 := Lib.hid e5; have E6 := Lib.hid e6; have E7 := Lib.hid e7; have E8 := Lib.hid e8; have E9 := Lib.hid e9; have HR := Lib.hid hR; have H1 := Lib.hid C1; have H2 := Lib.hid C2; have H3 := Lib.hid C3; have H4 := Lib.hid C4; have H5 := Lib.hid C5; have H6 := Lib.hid C6; clear h1 h2 h3 h4 k1 k2 k3 k4 e1 e2 e3 e4 e5 e6 e7 e8 e9 hR C1 C2 C3 C4 C5 C6 hs_ n1 n2 n3
  show Calls _ _ #[.agg #[.slice a1 hs.length c1, .slice a2 ts.length c2, .slice a3 ns.length c3, .int .i64 r, .int .i64 hd, .slice a4 ac.length c4, .int .i64 rt, .int .i64 tm, .int .i64 ls, .int .i64 cm]] _ _
  go_enter Tryz.func14, Tryz.ntmps14; have K := Blk.new w 30 #[.slice a1 hs.length c1, .slice a2 ts.length c2, .slice a3 ns.length c3, .int .i64 r, .int .i64 hd, .slice a4 ac.length c4, .int .i64 rt, .int .i64 tm, .int .i64 ls, .int .i64 cm]; have B := (Below.refl w.heap.size w).alloc (Nat.le_refl _) (.cells #[.slice a1 hs.length c1, .slice a2 ts.length c2, .slice a3 ns.length c3, .int .i64 r, .int .i64 hd, .slice a4 ac.length c4, .int .i64 rt, .int .i64 tm, .int .i64 ls, .int .i64 cm] 30); obtain ⟨q0, q1, q2, q3, q4, q5, q6, q7, q8, q9⟩ := jq0 K; go_wp2_with fail; generalize w.alloc (.cells #[.slice a1 hs.length c1, .slice a2 ts.length c2, .slice a3 ns.length c3, .int .i64 r, .int .i64 hd, .slice a4 ac.length c4, .int .i64 rt, .int .i64 tm, .int .i64 ls, .int .i64 cm] 30) = U at K B q0 q1 q2 q3 q4 q5 q6 q7 q8 q9 ⊢; refine (H1.out _ B).mono ?_; rintro e u ⟨rfl, C⟩; replace K := K.next C; replace B := jq1 B C; clear C q0 q1 q2 q3 q4 q5 q6 q7 q8 q9; obtain ⟨q0, q1, q2, q3, q4, q5, q6, q7, q8, q9⟩ := jq0 K
  cases b1 with
  | false =>
    go_wp2_with fail; go_ret; exact ⟨jq4 HR.out, B⟩
  | true =>
  go_wp2_with fail; refine (H2.out _ B).mono ?_; rintro e u ⟨rfl, C⟩; replace K := K.next C; replace B := jq1 B C; clear C q0 q1 q2 q3 q4 q5 q6 q7 q8 q9; obtain ⟨q0, q1, q2, q3, q4, q5, q6, q7, q8, q9⟩ := jq0 K
  cases b2 with
  | false =>
    go_wp2_with fail; go_ret; exact ⟨jq4 HR.out, B⟩
  | true =>
  go_wp2_with fail; refine (H3.out _ B).mono ?_; rintro e u ⟨rfl, C⟩; replace K := K.next C; replace B := jq1 B C; clear C q0 q1 q2 q3 q4 q5 q6 q7 q8 q9; obtain ⟨q0, q1, q2, q3, q4, q5, q6, q7, q8, q9⟩ := jq0 K
  cases b3 with
  | false =>
    go_wp2_with fail; go_ret; exact ⟨jq4 HR.out, B⟩
  | true =>
  go_wp2_with fail; refine (H4.out _).mono ?_; rintro e u ⟨rfl, C⟩; replace K := K.next C; replace B := jq1 B C; clear C q0 q1 q2 q3 q4 q5 q6 q7 q8 q9; obtain ⟨q0, q1, q2, q3, q4, q5, q6, q7, q8, q9⟩ := jq0 K
  cases b4 with
  | false =>
    go_wp2_with fail; go_ret; exact ⟨jq4 HR.out, B⟩
  | true =>
  go_wp2_with fail; refine (H5.out _ B).mono ?_; rintro e u ⟨rfl, C⟩; replace K := K.next C; replace B := jq1 B C; clear C q0 q1 q2 q3 q4 q5 q6 q7 q8 q9; obtain ⟨q0, q1, q2, q3, q4, q5, q6, q7, q8, q9⟩ := jq0 K
  cases b5 with
  | false =>
    go_wp2_with fail; go_ret; exact ⟨jq4 HR.out, B⟩
  | true =>
  go_wp2_with fail; refine (iwithin3 rt 500 _).mono ?_; rintro e u ⟨rfl, rfl⟩; rw [E6.out]
  cases b6 with
  | false =>
    go_wp2_with fail; go_ret; exact ⟨jq4 HR.out, B⟩
  | true =>
  go_wp2_with fail; refine (itime3 tm _).mono ?_; rintro e u ⟨rfl, rfl⟩; rw [E7.out]
  cases b7 with
  | false =>
    go_wp2_with fail; go_ret; exact ⟨jq4 HR.out, B⟩
  | true =>
  go_wp2_with fail; refine (iwithin3 ls 1000000 _).mono ?_; rintro e u ⟨rfl, rfl⟩; rw [E8.out]
  cases b8 with
  | false =>
    go_wp2_with fail; go_ret; exact ⟨jq4 HR.out, B⟩
  | true =>
  go_wp2_with fail; refine (iwithin3 cm 1000000 _).mono ?_; rintro e u ⟨rfl, rfl⟩; rw [E9.out]
  cases b9 with
  | false =>
    go_wp2_with fail; go_ret; exact ⟨jq4 HR.out, B⟩
  | true =>
  obtain ⟨s0, s1⟩ := HS5.out E5.out
  have v4 : 0 ≤ hd ∧ hd ≤ 20000 := by have := vb_iff.1 E4.out; omega
  obtain ⟨v5, v6⟩ := jzd E8.out; obtain ⟨v7, v8⟩ := v4
  have hlen : (ac.length : Int) ≤ 1048576 := by omega
  have w1 : IntKind.i64.wrap (s + hd) = s + hd := by rw [IntKind.wrap_i64]; omega
  have w2 : IntKind.i64.wrap (s + hd + ls) = s + hd + ls := by rw [IntKind.wrap_i64]; omega
  clear HS5 hlen n4 s0 s1 v5 v6 v7 v8; have HQ := Lib.hid (fun W hW => H6.out W hW E5.out); go_wp2_with fail; have HMK1 := Lib.hid (fun (W : World) (hW : Below u.heap.size u W) => (⟨⟨(hW.cell (p := ⟨w.heap.size, 4, none⟩) (K.lt)).trans q4, (hW.cell (p := ⟨w.heap.size, 5, none⟩) (K.lt)).trans q5, (hW.cell (p := ⟨w.heap.size, 8, none⟩) (K.lt)).trans q8, (hW.cell (p := ⟨w.heap.size, 9, none⟩) (K.lt)).trans q9⟩, hW⟩ : (W.cell? ⟨w.heap.size, 4, none⟩ = some (.int .i64 hd) ∧ W.cell? ⟨w.heap.size, 5, none⟩ = some (.slice a4 ac.length c4) ∧ W.cell? ⟨w.heap.size, 8, none⟩ = some (.int .i64 ls) ∧ W.cell? ⟨w.heap.size, 9, none⟩ = some (.int .i64 cm)) ∧ Below u.heap.size u W)); refine wp_region_held_drew (S := (fun w' => (w'.cell? ⟨w.heap.size, 4, none⟩ = some (.int .i64 hd) ∧ w'.cell? ⟨w.heap.size, 5, none⟩ = some (.slice a4 ac.length c4) ∧ w'.cell? ⟨w.heap.size, 8, none⟩ = some (.int .i64 ls) ∧ w'.cell? ⟨w.heap.size, 9, none⟩ = some (.int .i64 cm)) ∧ Below u.heap.size u w')) (by kernel_rfl) ?_ (fun hHeld => ?_)
  · exact ⟨⟨q4, q5, q8, q9⟩, (Below.refl _ _).drew⟩
  refine tk (i := 0) (v := ?v1b0) rfl ?c1b0 ?d_1b0
  case c1b0 => (refine .inl ⟨by rfl, ?_⟩; intro w h; (try dsimp only at h); go_simp <;> with_reducible rfl)
  try simp only [pt]
  refine tk (i := 1) (v := ?v1b1) rfl ?c1b1 ?d_1b1
  case c1b1 => (refine .inl ⟨by rfl, ?_⟩; intro w h; (try dsimp only at h); go_simp <;> with_reducible rfl)
  try simp only [pt]
  refine tk (i := 3) (v := ?v1b2) rfl ?c1b2 ?d_1b2
  case c1b2 => (refine .inl ⟨by rfl, ?_⟩; intro w h; (try dsimp only at h); go_simp <;> with_reducible rfl)
  try simp only [pt]
  refine tk (i := 4) (v := ?v1b3) rfl ?c1b3 ?d_1b3
  case c1b3 => (refine .inl ⟨by rfl, ?_⟩; intro w h; (try dsimp only at h); go_simp <;> with_reducible rfl)
  try simp only [pt]
  refine tk (i := 5) (v := ?v1b4) rfl ?c1b4 ?d_1b4
  case c1b4 => (refine .inl ⟨by rfl, ?_⟩; intro w h; (try dsimp only at h); go_simp <;> with_reducible rfl)
  try simp only [pt]
  refine tk (i := 7) (v := ?v1b5) rfl ?c1b5 ?d_1b5
  case c1b5 => (refine .inl ⟨by rfl, ?_⟩; intro w h; (try dsimp only at h); go_simp <;> with_reducible rfl)
  try simp only [pt]
  refine tk (i := 8) (v := ?v1b6) rfl ?c1b6 ?d_1b6
  case c1b6 => (refine .inl ⟨by rfl, ?_⟩; intro w h; (try dsimp only at h); go_simp <;> with_reducible rfl)
  try simp only [pt]
  refine tk (i := 10) (v := ?v1b7) rfl ?c1b7 ?d_1b7
  case c1b7 => (refine .inl ⟨by rfl, ?_⟩; intro w h; (try dsimp only at h); go_simp <;> with_reducible rfl)
  try simp only [pt]
  refine tk (i := 11) (v := ?v1b8) rfl ?c1b8 ?d_1b8
  case c1b8 => (refine .inl ⟨by rfl, ?_⟩; intro w h; (try dsimp only at h); go_simp <;> with_reducible rfl)
  try simp only [pt]
  refine wpAnyH_ready (rs := [2]) (by kernel_rfl) (by simp) (AllReadyH.cons (o := ?ooa11_q0) ?hia11_q0 (fun K hK => ?hka11_q0) AllReadyH.nil)
  case hia11_q0 => (simp only [List.getElem?_toArray, List.getElem?_cons_succ, List.getElem?_cons_zero]; rfl)
  case hka11_q0 =>
    (rw [if_pos (by rfl)]; go_simp; refine (HQ.out _ (jq1 B hHeld.2)).mono ?_; rintro e w2_ ⟨rfl, hb⟩; go_wp2_with fail; refine hK.out _ _ (HMK1.out _ (jq1 hHeld.2 hb)) (fun hHeld => ?_); clear hK K)
    try simp only [pt]
    refine tk (i := 6) (v := ?v1b9) rfl ?c1b9 ?d_1b9
    case c1b9 => (refine .inl ⟨by rfl, ?_⟩; intro w h; (try dsimp only at h); go_simp <;> with_reducible rfl)
    try simp only [pt]
    refine tk (i := 9) (v := ?v1ba) rfl ?c1ba ?d_1ba
    case c1ba => (refine .inl ⟨by rfl, ?_⟩; intro w h; (try dsimp only at h); go_simp <;> with_reducible rfl)
    try simp only [pt]
    refine tk (i := 12) (v := ?v1bb) rfl ?c1bb ?d_1bb
    case c1bb => (refine .inl ⟨by rfl, ?_⟩; intro w h; (try dsimp only at h); go_simp <;> with_reducible rfl)
    try simp only [pt]
    refine tk (i := 13) (v := ?v1bc) rfl ?c1bc ?d_1bc
    case c1bc => (refine .inl ⟨by rfl, ?_⟩; intro w h; (try dsimp only at h); go_simp <;> with_reducible rfl)
    try simp only [pt]
    refine wpAnyH_done (by kernel_rfl) ?_ _; clear HMK1; have B2 := jq1 B hHeld.2; clear hHeld; go_wp2_with fail; go_ret; exact ⟨itown_last R HR.out.symm, B2⟩
theorem svb (r h : Int) (w : World) :
  Calls Tryz.prog 93 #[.agg #[.int .i64 r, .int .i64 h]] w fun e w' => e = .returned (.bool (vbB r h)) ∧ Below w.heap.size w w' := by
 by_cases a : r < 0 ∨ 20000 < r
 ·rw [vb_no (by omega)]
  go_enter Tryz.func93, Tryz.ntmps93; go_wp2_with fail; refine (jzf r 0 20000 _ a).mono ?_; rintro e w' ⟨rfl, rfl⟩; go_wp2_with fail; go_ret; exact ⟨rfl, by go_grown⟩
 ·have a1 : 0 ≤ r := by omega
  have a2 : r ≤ 20000 := by omega
  by_cases b : h < 0 ∨ r < h
  ·rw [vb_no (by omega)]
   clear a; go_enter Tryz.func93, Tryz.ntmps93; go_wp2_with fail; refine (jz0 r 0 20000 _ a1 a2).mono ?_; rintro e w' ⟨rfl, rfl⟩; go_wp2_with fail; refine (jzf h 0 r _ b).mono ?_; rintro e w' ⟨rfl, rfl⟩; go_wp2_with fail; go_ret; exact ⟨rfl, by go_grown⟩
  ·have b1 : 0 ≤ h := by omega
   have b2 : h ≤ r := by omega
   rw [vb_iff.2 ⟨a1, a2, b1, b2⟩]; clear a b; go_enter Tryz.func93, Tryz.ntmps93; go_wp2_with fail; refine (jz0 r 0 20000 _ a1 a2).mono ?_; rintro e w' ⟨rfl, rfl⟩; go_wp2_with fail; refine (jz0 h 0 r _ b1 b2).mono ?_; rintro e w' ⟨rfl, rfl⟩; go_wp2_with fail; go_ret; exact ⟨rfl, by go_grown⟩
theorem sHour (r hd c q : Int) (w : World) (hv : vbB r hd = true) (h1 : 0 ≤ c ∧ c ≤ 500) (h2 : 0 ≤ q ∧ q ≤ 500) :
  Calls Tryz.prog 154 #[.agg #[.int .i64 r, .int .i64 hd], .int .i64 c, .int .i64 q] w fun e w' => e = .returned (.tuple #[.agg #[.int .i64 r, .int .i64 (jxd r hd c q)], .int .i64 (jzh hd c q), .int .i64 (jx2 r hd c q)]) ∧ Below w.heap.size w w' := by
 obtain ⟨r0, r1, r2, r3⟩ := vb_iff.1 hv; obtain ⟨c0, c1⟩ := h1; obtain ⟨q0, q1⟩ := h2; clear hv
 by_cases e1 : q ≤ hd + c
 ·by_cases e2 : r ≤ hd + c - q
  ·have hg : jzh hd c q = q := by unfold jzh; omega
   have hs : jxd r hd c q = r := by unfold jxd; rw [hg]; omega
   have hsp : jx2 r hd c q = hd + c - q - (r) := by unfold jx2; rw [hs, hg]
   rw [hsp, hg, hs]; clear hg hs hsp; go_enter Tryz.func154, Tryz.ntmps154; go_wp2_with fail
   go_region
   all_goals (
    go_wp2_with fail
    refine bodyPost_ret (v := .tuple #[.agg #[.int .i64 r, .int .i64 r], .int .i64 q, .int .i64 (hd + c - q - r)]) (by simp [results, Tryz.results154, go_sem]) rfl ⟨rfl, by go_grown⟩)
  ·have hg : jzh hd c q = q := by unfold jzh; omega
   have hs : jxd r hd c q = hd + c - q := by unfold jxd; rw [hg]; omega
   have hsp : jx2 r hd c q = hd + c - q - (hd + c - q) := by unfold jx2; rw [hs, hg]
   rw [hsp, hg, hs]; clear hg hs hsp; go_enter Tryz.func154, Tryz.ntmps154; go_wp2_with fail
   go_region
   all_goals (
    go_wp2_with fail
    refine bodyPost_ret (v := .tuple #[.agg #[.int .i64 r, .int .i64 (hd + c - q)], .int .i64 q, .int .i64 (hd + c - q - (hd + c - q))]) (by simp [results, Tryz.results154, go_sem]) rfl ⟨rfl, by go_grown⟩)
 ·by_cases e2 : r ≤ hd + c - (hd + c)
  ·have hg : jzh hd c q = (hd + c) := by unfold jzh; omega
   have hs : jxd r hd c q = r := by unfold jxd; rw [hg]; omega
   have hsp : jx2 r hd c q = hd + c - (hd + c) - (r) := by unfold jx2; rw [hs, hg]
   rw [hsp, hg, hs]; clear hg hs hsp; go_enter Tryz.func154, Tryz.ntmps154; go_wp2_with fail
   go_region
   all_goals (
    go_wp2_with fail
    refine bodyPost_ret (v := .tuple #[.agg #[.int .i64 r, .int .i64 r], .int .i64 (hd + c), .int .i64 (hd + c - (hd + c) - r)]) (by simp [results, Tryz.results154, go_sem]) rfl ⟨rfl, by go_grown⟩)
  ·have hg : jzh hd c q = (hd + c) := by unfold jzh; omega
   have hs : jxd r hd c q = hd + c - (hd + c) := by unfold jxd; rw [hg]; omega
   have hsp : jx2 r hd c q = hd + c - (hd + c) - (hd + c - (hd + c)) := by unfold jx2; rw [hs, hg]
   rw [hsp, hg, hs]; clear hg hs hsp; go_enter Tryz.func154, Tryz.ntmps154; go_wp2_with fail
   go_region
   all_goals (
    go_wp2_with fail
    refine bodyPost_ret (v := .tuple #[.agg #[.int .i64 r, .int .i64 (hd + c - (hd + c))], .int .i64 (hd + c), .int .i64 (hd + c - (hd + c) - (hd + c - (hd + c)))]) (by simp [results, Tryz.results154, go_sem]) rfl ⟨rfl, by go_grown⟩)
theorem infoBool : (Tryz.prog.info? 4).map (fun i => (i.zero, i.size, i.bytes)) = some (some (.bool false), 1, 1) := by kernel_rfl
theorem below_ns {w w' : World} (h : Below w.heap.size w w') (row : Option Nat) : w.grownBy w' row := jxe h row
def Given (w : World) (g : Nat) (D : List Int) (m : Nat) : Prop := w.rowIs g 4 m (fun i => .bool (decide (D.getD i 0 < 0)))
theorem given_keep {w w' : World} {g m : Nat} {D : List Int} (h : Given w g D m) (hB : Below w.heap.size w w') : Given w' g D m := World.rowIs.of_block h (hB.block g (World.rowIs.lt h))
theorem given_skip {w : World} {g g' m : Nat} {D : List Int} (h : Given w g D m) (k : Nat) (v : Value) (hne : g' ≠ g) : Given (w.setCell ⟨g', k, none⟩ v) g D m :=
 World.rowIs.of_block h (Below.heap_setCell w ⟨g', k, none⟩ v g (fun e => by first | exact hne e | exact hne e.symm))
theorem given_set {w : World} {g m : Nat} {D : List Int} (h : Given w g D m) (k : Nat) (hk : k < D.length) : Given (w.setCell ⟨g, k, none⟩ (.bool true)) g (D.set k (-1)) m :=
 (World.rowIs.set h k (.bool true)).congr (fun j hj => by
  show (if j = k then Value.bool true else .bool (decide (D.getD j 0 < 0))) = _
  rw [getD_set _ _ _ hk]; split <;> rfl)
def DivS (m : Nat) (R : List Int) (w : World) (e : Ending) (w' : World) : Prop := ∃ (b : Option Addr) (cap : Nat), e = .returned (.slice b m cap) ∧ jqc w' b R ∧ Below w.heap.size w w'
theorem stotalN (m : Nat) (a : Option Addr) (cap : Nat) (zs : List Int) (w : World) (hl : zs.length = m) (h : jqc w a zs) (hn : m ≤ 1048576) (hz : ∀ z ∈ zs, -1000000 ≤ z ∧ z ≤ 1000000) :
  Calls Tryz.prog 185 #[.slice a m cap] w fun e w' => e = .returned (.int .i64 zs.sum) ∧ w = w' := by
 subst hl; exact stotal a cap zs w h hn hz
theorem q_all {n : Int} {ws : List Int} (hcs : csB n ws = true) : ∀ z ∈ qs n ws, -1000000 ≤ z ∧ z ≤ 1000000 := fun z hz => by
 obtain ⟨i, hi, rfl⟩ := List.getElem_of_mem hz; have hql := qs_len n ws; have := q_le hcs (i := i) (by omega); rw [List.getD_eq_getElem?_getD, List.getElem?_eq_getElem hi] at this
 simp at this; omega
theorem own_isints {w : World} {base g n cap : Nat} {zs : List Int} (h : w.ownsRow base 3 1 (.slice (some ⟨g, 0, none⟩) n cap) n (zs.map (Value.int .i64))) (hl : zs.length = n) : jqc w (some ⟨g, 0, none⟩) zs := by
 subst hl; obtain ⟨b, c, hv, hi⟩ := own_ints h; injection hv with h1 h2 h3; rw [h1]; exact hi
def okD (D : List Int) (i : Nat) : Bool := decide (0 ≤ D.getD i 0)
theorem pickD_is (D : List Int) (hm : ∀ i, i < D.length → -1 ≤ D.getD i 0) {m : Nat} (hl : D.length = m) : ∀ k, k ≤ m → (jxi (okD D) (jzi D) k = -1 ∧ jz2 (jzi D) k = 0 ∧ ∀ j, j < k → okD D j = false) ∨ (jxi (okD D) (jzi D) k = (jz2 (jzi D) k : Nat) ∧ okD D (jz2 (jzi D) k) = true ∧ jz2 (jzi D) k < k) := by
 subst hl; refine pickS_is (okD D) (jzi D) D.length (fun i b hi hb h1 h2 => ?_) (fun i b hi hb h1 => ?_)
 ·unfold okD at h1 h2; unfold jzi
  simp at h1 h2 ⊢; omega
 ·have a := hm i hi
  have b := hm b hb; unfold okD at h1; unfold jzi; simp only [decide_eq_false_iff_not] at h1 ⊢; omega
theorem pickS_skip (D : List Int) (k : Nat) (h : D.getD k 0 < 0) : jxi (okD D) (jzi D) (k + 1) = jxi (okD D) (jzi D) k := by
 show (if okD D k && _ then (k : Int) else jxi (okD D) (jzi D) k) = _
 have : okD D k = false := by unfold okD; exact decide_eq_false (by omega)
 rw [this]; simp
theorem pickS_first (D : List Int) (k : Nat) (h : ¬ D.getD k 0 < 0) (h1 : jxi (okD D) (jzi D) k = -1) : jxi (okD D) (jzi D) (k + 1) = k := by
 show (if okD D k && (decide (jxi (okD D) (jzi D) k < 0) || _) then (k : Int) else jxi (okD D) (jzi D) k) = _
 have : okD D k = true := by unfold okD; exact decide_eq_true (by omega)
 rw [this, h1]; simp
theorem pickS_next (D : List Int) (k b : Nat) (h : ¬ D.getD k 0 < 0) (h1 : jxi (okD D) (jzi D) k = (b : Int)) : jxi (okD D) (jzi D) (k + 1) = if D.getD b 0 < D.getD k 0 then (k : Int) else b := by
 show (if okD D k && (decide (jxi (okD D) (jzi D) k < 0) || jzi D k (jxi (okD D) (jzi D) k).toNat) then (k : Int) else jxi (okD D) (jzi D) k) = _
 have : okD D k = true := by unfold okD; exact decide_eq_true (by omega)
 rw [this, h1]
 have e : decide ((b : Int) < 0) = false := by simp
 rw [e, Int.toNat_natCast]; unfold jzi
 simp
theorem sbyRest (n : Int) (a : Option Addr) (cap : Nat) (ws : List Int) (w : World) (h : jqc w a ws) (hn : ws.length ≤ 1048576) (hcs : csB n ws = true) :
  Calls Tryz.prog 152 #[.int .i64 n, .slice a ws.length cap] w (DivS ws.length (sr n ws) w) := by
 obtain ⟨⟨n0, n1⟩, hv⟩ := jvb hcs; have h0 := h
 rcases h with rfl | ⟨g, o, rfl, hc⟩
 ·exact absurd (vw_is hv).2.2 (by simp)
 ·have hmk := run_make_row' (P := Tryz.prog) 189 4 (.bool false) 1 Tryz.underlying189 infoBool rfl .i64 .i64 ws.length (by omega) (by omega)
  obtain ⟨s0, s1⟩ := ws_bd hv; have l12 := (vw_is hv).2.1; have l1 := ws_ne hv; have HZ := Lib.hid (all_bd (vw_is hv).1 (by omega)); have HQ := Lib.hid (q_all hcs); have HC := Lib.hid hc; have HK := Lib.hid hcs; have H0 := Lib.hid h0; have hql := qs_len n ws; have HL := Lib.hid (left_is hcs); obtain ⟨q0, q1⟩ := q_sum hcs
  have hL500 : jv0 n ws ≤ 500 := by have := left_is hcs; omega
  clear hc hv h0 hcs; go_enter Tryz.func152, Tryz.ntmps152; go_wp2_with fail; refine (squotasO n _ cap ws _ H0.out hn HK.out).mono ?_; rintro e w1 ⟨v, rfl, ho, hB1⟩; obtain ⟨go, co, rfl, lgo, lt1⟩ := ho.form l1; have HO := Lib.hid ho; have HB := Lib.hid hB1; clear ho hB1; go_wp2_with fail; refine (stotal _ cap ws _ (jqf H0.out HB.out) hn HZ.out).mono ?_; rintro e w' ⟨rfl, rfl⟩; go_wp2_with fail
  have gne : go ≠ w1.heap.size := by omega
  have HO2 := Lib.hid (HO.out.alloc (.cells (madeCells #[.bool false] ws.length) 4)); have HB2 := Lib.hid (HB.out.alloc HB.out.size (.cells (madeCells #[.bool false] ws.length) 4)); have HG := Lib.hid (World.rowIs_made w1 (.bool false) ws.length 4); clear hmk; refine (stotalN ws.length _ _ (qs n ws) _ hql (own_isints HO2.out hql) hn HQ.out).mono ?_; rintro e w' ⟨rfl, rfl⟩; go_wp2_with fail
  go_loopw [8] (fun l wr => ∃ j : Nat, j ≤ jv0 n ws ∧ l = .int .i64 ((jv0 n ws : Int) - j) ∧ wr.ownsRow w.heap.size 3 1 (.slice (some ⟨go, 0, none⟩) ws.length co) ws.length ((jz6 n ws j).1.map (Value.int .i64)) ∧ Given wr w1.heap.size (jz6 n ws j).2 ws.length ∧ Below w.heap.size w wr) (fun l _ => (intOf l).toNat)
  case atStart =>
   refine ⟨0, Nat.zero_le _, by rw [HL.out]; go_num, HO2.out, HG.out.congr (fun i hi => ?_), HB2.out⟩; have := rsts_bd HK.out hi
   show Value.bool false = .bool (decide ((rsts n ws).getD i 0 < 0))
   rw [decide_eq_false (by omega)]
  case round =>
   obtain ⟨j, hj, rfl, RG, RD, hB⟩ := hrel
   by_cases hjl : j < jv0 n ws
   ·have RJ := rest_is HK.out j hj
    obtain ⟨hb, hpos⟩ := rest_best HK.out RJ hjl
    have hy : 0 ≤ (jz6 n ws j).1.getD (jz2 (jzi (jz6 n ws j).2) ws.length) 0 ∧ (jz6 n ws j).1.getD (jz2 (jzi (jz6 n ws j).2) ws.length) 0 ≤ 500001 := by
     have := q_le HK.out hb
     rcases RJ.each _ hb with h | h <;> omega
    have hD : ∀ i, i < ws.length → -1 ≤ (jz6 n ws j).2.getD i 0 ∧ (0 ≤ (jz6 n ws j).2.getD i 0 → (jz6 n ws j).2.getD i 0 = n * ws.getD i 0 % ws.sum) := fun i hi => by
     have := rsts_bd HK.out hi; have e := rsts_get n ws hi
     rcases RJ.each i hi with h | h
     ·omega
     ·omega
    obtain ⟨lG, lD⟩ := restTo_len n ws j; have e1 := restTo_succ1 n ws j; have e2 := restTo_succ2 n ws j
    obtain ⟨G', hG'⟩ : ∃ G', (jz6 n ws (j + 1)).1 = G' := ⟨_, rfl⟩
    obtain ⟨D', hD'⟩ : ∃ D', (jz6 n ws (j + 1)).2 = D' := ⟨_, rfl⟩
    rw [hG'] at e1; rw [hD'] at e2; have HGD := Lib.hid (And.intro hG' hD'); clear hG' hD' RJ; generalize (jz6 n ws j).1 = G at *; generalize (jz6 n ws j).2 = D at *; have HD := Lib.hid hD; have HP := Lib.hid (pickD_is D (fun i hi => (hD i (by omega)).1) lD); have HRG := Lib.hid RG; have HRD := Lib.hid RD; have HBB := Lib.hid hB; have HE := Lib.hid (And.intro e1 e2)
    have hpk : jxi (okD D) (jzi D) ws.length = (jz2 (jzi D) ws.length : Nat) := by
     rcases HP.out ws.length (Nat.le_refl _) with ⟨_, b0, hno⟩ | ⟨h, _⟩
     ·have := hno _ hb
      unfold okD at this; simp only [decide_eq_false_iff_not] at this
      omega
     ·exact h
    have HPK := Lib.hid hpk; clear RG RD hB e1 e2 hD hpk hpos; go_wp2_with fail
    go_loopw [9, 10] (fun b i wi => ∃ k : Nat, k ≤ ws.length ∧ i = .int .i64 k ∧ b = .int .i64 (jxi (okD D) (jzi D) k) ∧ Below wr.heap.size wr wi) (fun _ i _ => ws.length - (intOf i).toNat)
    case atStart => exact ⟨0, Nat.zero_le _, rfl, rfl, Below.refl _ _⟩
    case round =>
     obtain ⟨k, hk, rfl, hbest, hBi⟩ := hrel
     by_cases hlt : k < ws.length
     ·have hcell := World.rowIs.cell (given_keep HRD.out hBi) hlt
      have i0 : (0 : Int) ≤ (k : Int) := by omega
      have i1 : (k : Int) < (ws.length : Int) := by omega
      by_cases hd : D.getD k 0 < 0
      ·rw [decide_eq_true hd] at hcell
       have HS := Lib.hid (pickS_skip D k hd); subst hbest; go_wp2_with fail
       go_quiet (fail)
       go_wp2
       go_roundw
       case rel => exact ⟨k + 1, by omega, by go_num, by rw [HS.out], jqb hBi _⟩
       case measure => simp [intOf]; omega
      ·rw [decide_eq_false hd] at hcell
       rcases HP.out k hk with ⟨p1, _, _⟩ | ⟨p1, p2, p3⟩
       ·have HS := Lib.hid (pickS_first D k hd p1)
        rw [p1] at hbest; subst hbest; clear p1; go_wp2_with fail
        go_quiet (fail)
        go_wp2
        go_roundw
        case rel => exact ⟨k + 1, by omega, by go_num, by rw [HS.out], jqb hBi _⟩
        case measure => simp [intOf]; omega
       ·have HS := Lib.hid (pickS_next D k _ hd p1)
        rw [p1] at hbest; subst hbest; have hB2 := jq1 HBB.out hBi; have hc := (hB2.cell (p := ⟨g, o + k, none⟩) (World.block_lt_of_cell? w _ (HC.out k hlt))).trans (HC.out k hlt); have hc2 := (hB2.cell (p := ⟨g, o + jz2 (jzi D) k, none⟩) (World.block_lt_of_cell? w _ (HC.out _ (by omega)))).trans (HC.out _ (by omega)); have d1 := (HD.out k hlt).2 (by omega); unfold okD at p2; simp only [decide_eq_true_eq] at p2; have d2 := (HD.out (jz2 (jzi D) k) (by omega)).2 p2; rw [d1, d2] at HS; obtain ⟨z0, z1, z2, z3⟩ := q_bd HK.out hlt; obtain ⟨y0, y1, y2, y3⟩ := q_bd HK.out (show jz2 (jzi D) k < ws.length by omega)
        have i2 : (0 : Int) ≤ (jz2 (jzi D) k : Int) := by omega
        have i3 : (jz2 (jzi D) k : Int) < (ws.length : Int) := by omega
        have i4 : decide ((jz2 (jzi D) k : Int) < 0) = false := decide_eq_false (by omega); clear d1 d2 p1 p2 hd hB2; generalize jz2 (jzi D) k = b at *; generalize ws.getD k 0 = z at *; generalize ws.getD b 0 = y at *; have t1 : (n * z).tmod ws.sum = n * z % ws.sum := Int.tmod_eq_emod_of_nonneg z2; have t2 : (n * y).tmod ws.sum = n * y % ws.sum := Int.tmod_eq_emod_of_nonneg y2
        have t3 : IntKind.i64.wrap (n * z) = n * z := by rw [IntKind.wrap_i64]; omega
        have t4 : IntKind.i64.wrap (n * y) = n * y := by rw [IntKind.wrap_i64]; omega
        by_cases hzy : n * y % ws.sum < n * z % ws.sum
        ·rw [if_pos hzy] at HS
         go_wp2_with fail
         go_quiet (fail)
         go_wp2
         go_roundw
         case rel => exact ⟨k + 1, by omega, by go_num, by rw [HS.out], jqb hBi _⟩
         case measure => simp [intOf]; omega
        ·rw [if_neg hzy] at HS
         go_wp2_with fail
         go_quiet (fail)
         go_wp2
         go_roundw
         case rel => exact ⟨k + 1, by omega, by go_num, by rw [HS.out], jqb hBi _⟩
         case measure => simp [intOf]; omega
     ·have ek : k = ws.length := by omega
      subst ek; rw [HPK.out] at hbest; subst hbest; clear HPK HP HD; have RG := HRG.out.kept (below_ns hBi none) (.inr (by simp [Value.ownBlock])); have RD := given_keep HRD.out hBi; have hB2 := jq1 HBB.out hBi
      have hlen : (G.map (Value.int .i64)).length = ws.length := by simp [lG]
      have hx := RG.cellAt (jz2 (jzi D) ws.length) (by omega); obtain ⟨E1, E2⟩ := HE.out; generalize jz2 (jzi D) ws.length = b at *
      have hgv : (G.map (Value.int .i64))[b]? = some (.int .i64 (G.getD b 0)) := by
       rw [List.getElem?_map, List.getD_eq_getElem?_getD, List.getElem?_eq_getElem (by omega)]; rfl
      rw [hgv] at hx; have hf := RG.frozenAt b; have hf2 := World.rowIs.frozen RD b; have hz := World.rowIs.cell RD hb; have hx2 := so (v := .bool true) (show (⟨w1.heap.size, b, none⟩ : Addr) ≠ ⟨go, b, none⟩ from fun e => gne (by injection e with e; exact e.symm)) hx
      have i0 : (0 : Int) ≤ (b : Int) := by omega
      have i1 : (b : Int) < (ws.length : Int) := by omega
      have sG := ((RG.kept (row := some w1.heap.size) (g_set (p := ⟨w1.heap.size, b, none⟩) (jxe (Below.refl _ wr) _) (.inl rfl) (.bool true)) (.inr (by simp [Value.ownBlock]; exact gne))).stored b (.int .i64 (G.getD b 0 + 1))).1; rw [show (G.map (Value.int .i64)).set b (.int .i64 (G.getD b 0 + 1)) = (G.set b (G.getD b 0 + 1)).map (Value.int .i64) by rw [List.map_set], ← E1] at sG; have sD := given_skip (given_set RD b (by omega)) b (.int .i64 (G.getD b 0 + 1)) gne; rw [← E2] at sD; have sB : Below w.heap.size w ((wr.setCell ⟨w1.heap.size, b, none⟩ (.bool true)).setCell ⟨go, b, none⟩ (.int .i64 (G.getD b 0 + 1))) := (hB2.setCell (by exact HB.out.size) _).setCell lgo _; have HS := Lib.hid (And.intro sG (And.intro sD sB)); clear sG sD sB RG RD hB2 E1 E2 HE HRG HRD HBB hgv hlen; generalize G.getD b 0 = y at *
      go_wp2
      go_roundw
      case rel => exact ⟨j + 1, by omega, by go_num, by rw [HGD.out.1]; exact HS.out.1, by rw [HGD.out.2]; exact HS.out.2.1, HS.out.2.2⟩
      case measure => simp [intOf]; omega
   ·have e : j = jv0 n ws := by omega
    subst e
    go_wp2
    go_ret; exact ⟨some ⟨go, 0, none⟩, co, rfl, own_isints RG (sr_len n ws), hB⟩
def okWa (ws : List Int) (i : Nat) : Bool := decide (0 < ws.getD i 0)
theorem pickW_is (step : Int) (ws gs : List Int) (m : Nat) (h1 : ∀ i, i < m → 0 ≤ ws.getD i 0) (h2 : ∀ i, i < m → 0 < step * gs.getD i 0 + 1) :
  ∀ k, k ≤ m → (jxi (okWa ws) (avgB step ws gs) k = -1 ∧ jz2 (avgB step ws gs) k = 0 ∧ ∀ j, j < k → okWa ws j = false) ∨ (jxi (okWa ws) (avgB step ws gs) k = (jz2 (avgB step ws gs) k : Nat) ∧ okWa ws (jz2 (avgB step ws gs) k) = true ∧ jz2 (avgB step ws gs) k < k) := by
 refine pickS_is (okWa ws) (avgB step ws gs) m (fun i b hi hb a1 a2 => ?_) (fun i b hi hb a1 => ?_)
 ·unfold okWa at a1 a2; unfold avgB
  simp only [decide_eq_true_eq, decide_eq_false_iff_not] at a1 a2 ⊢
  have e : ws.getD b 0 = 0 := by have := h1 b hb; omega
  rw [e, Int.zero_mul]; exact Int.mul_pos a1 (h2 b hb)
 ·unfold okWa at a1; unfold avgB
  simp only [decide_eq_false_iff_not] at a1 ⊢
  have e : ws.getD i 0 = 0 := by have := h1 i hi; omega
  rw [e, Int.zero_mul]; have := Int.mul_nonneg (h1 b hb) (Int.le_of_lt (h2 i hi))
  omega
theorem pickW_skip (step : Int) (ws gs : List Int) (k : Nat) (h : ¬ 0 < ws.getD k 0) : jxi (okWa ws) (avgB step ws gs) (k + 1) = jxi (okWa ws) (avgB step ws gs) k := by
 show (if okWa ws k && _ then (k : Int) else jxi (okWa ws) (avgB step ws gs) k) = _
 have : okWa ws k = false := by unfold okWa; exact decide_eq_false (by omega)
 rw [this]; simp
theorem pickW_first (step : Int) (ws gs : List Int) (k : Nat) (h : 0 < ws.getD k 0) (h1 : jxi (okWa ws) (avgB step ws gs) k = -1) : jxi (okWa ws) (avgB step ws gs) (k + 1) = k := by
 show (if okWa ws k && (decide (jxi (okWa ws) (avgB step ws gs) k < 0) || _) then (k : Int) else jxi (okWa ws) (avgB step ws gs) k) = _
 have : okWa ws k = true := by unfold okWa; exact decide_eq_true h
 rw [this, h1]; simp
theorem pickW_next (step : Int) (ws gs : List Int) (k b : Nat) (h : 0 < ws.getD k 0) (h1 : jxi (okWa ws) (avgB step ws gs) k = (b : Int)) : jxi (okWa ws) (avgB step ws gs) (k + 1) = if ws.getD b 0 * (step * gs.getD k 0 + 1) < ws.getD k 0 * (step * gs.getD b 0 + 1) then (k : Int) else b := by
 show (if okWa ws k && (decide (jxi (okWa ws) (avgB step ws gs) k < 0) || avgB step ws gs k (jxi (okWa ws) (avgB step ws gs) k).toNat) then (k : Int) else jxi (okWa ws) (avgB step ws gs) k) = _
 have : okWa ws k = true := by unfold okWa; exact decide_eq_true h
 rw [this, h1]
 have e : decide ((b : Int) < 0) = false := by simp
 rw [e, Int.toNat_natCast]; unfold avgB
 simp
theorem sbyAvg (step n : Int) (a : Option Addr) (cap : Nat) (ws : List Int) (w : World) (h : jqc w a ws) (hn : ws.length ≤ 1048576) (hs : 1 ≤ step ∧ step ≤ 2) (hcs : csB n ws = true) :
  Calls Tryz.prog 199 #[.int .i64 n, .slice a ws.length cap, .int .i64 step, .int .i64 1] w (Divd ws.length (sa step n ws) w) := by
 obtain ⟨⟨n0, n1⟩, hv⟩ := jvb hcs
 rcases h with rfl | ⟨g, o, rfl, hc⟩
 ·exact absurd (vw_is hv).2.2 (by simp)
 ·have hmk := run_make_row' (P := Tryz.prog) 33 3 (.int .i64 0) 8 Tryz.underlying33 jj4 rfl .i64 .i64 ws.length (by omega) (by omega)
  have l1 := ws_ne hv; have HV := Lib.hid hv; have HK := Lib.hid hcs; have HC := Lib.hid hc; clear hv hcs hc; go_enter Tryz.func199, Tryz.ntmps199; go_wp2_with fail; clear hmk
  go_loopw [10] (fun l wr => ∃ j : Nat, j ≤ n.toNat ∧ l = .int .i64 j ∧ Row wr w.heap.size (jx4 step ws j) ∧ Below w.heap.size w wr) (fun l _ => (n - intOf l).toNat)
  case atStart =>
   refine ⟨0, Nat.zero_le _, rfl, ?_, by go_grown⟩; unfold Row; rw [avgTo_len]; refine (World.rowIs_made w (.int .i64 0) ws.length _).congr (fun i hi => ?_)
   show Value.int .i64 0 = .int .i64 ((List.replicate ws.length (0 : Int)).getD i 0)
   rw [List.getD_eq_getElem?_getD, List.getElem?_replicate]; split <;> rfl
  case round =>
   obtain ⟨j, hj, rfl, RG, hB⟩ := hrel
   by_cases hjn : (j : Int) < n
   ·have A := avg_is HV.out hs j (by omega)
    obtain ⟨hb, hwb⟩ := avg_pos HV.out hs (by omega) A; have hl := avgTo_len step ws j; have e1 := avgTo_succ step ws j
    have hbd : ∀ i, i < ws.length → 0 ≤ (jx4 step ws j).getD i 0 ∧ (jx4 step ws j).getD i 0 ≤ 1000 := fun i hi => by have := A.bd i hi; omega
    obtain ⟨G', hG'⟩ : ∃ G', jx4 step ws (j + 1) = G' := ⟨_, rfl⟩
    rw [hG'] at e1; have HG := Lib.hid hG'; clear hG' A; generalize jx4 step ws j = G at *; have HP := Lib.hid (pickW_is step ws G ws.length (fun i hi => (all_get HV.out hi).1) (fun i hi => (fac_bd hs (hbd i hi) (by omega)).1))
    have hpk : jxi (okWa ws) (avgB step ws G) ws.length = (jz2 (avgB step ws G) ws.length : Nat) := by
     rcases HP.out ws.length (Nat.le_refl _) with ⟨_, b0, hno⟩ | ⟨h, _⟩
     ·have := hno _ hb
      unfold okWa at this; simp only [decide_eq_false_iff_not] at this
      omega
     ·exact h
    have HPK := Lib.hid hpk; have HBD := Lib.hid hbd; have HRG := Lib.hid RG; have HB := Lib.hid hB; have HE := Lib.hid e1; clear hbd RG hB e1 hpk hwb; go_wp2_with fail
    go_loopw [11, 12] (fun b i wi => ∃ k : Nat, k ≤ ws.length ∧ i = .int .i64 k ∧ b = .int .i64 (jxi (okWa ws) (avgB step ws G) k) ∧ Below wr.heap.size wr wi) (fun _ i _ => ws.length - (intOf i).toNat)
    case atStart => exact ⟨0, Nat.zero_le _, rfl, rfl, Below.refl _ _⟩
    case round =>
     obtain ⟨k, hk, rfl, hbest, hBi⟩ := hrel
     by_cases hlt : k < ws.length
     ·have hB2 := jq1 HB.out hBi
      have c1 := (hB2.cell (p := ⟨g, o + k, none⟩) (World.block_lt_of_cell? w _ (HC.out k hlt))).trans (HC.out k hlt)
      have i0 : (0 : Int) ≤ (k : Int) := by omega
      have i1 : (k : Int) < (ws.length : Int) := by omega
      by_cases hd : 0 < ws.getD k 0
      ·rcases HP.out k hk with ⟨p1, _, _⟩ | ⟨p1, p2, p3⟩
       ·have HS := Lib.hid (pickW_first step ws G k hd p1)
        rw [p1] at hbest; subst hbest; clear p1 hB2; generalize ws.getD k 0 = x at *; go_wp2_with fail
        go_quiet (fail)
        go_wp2
        go_roundw
        case rel => exact ⟨k + 1, by omega, by go_num, by rw [HS.out], jqb hBi _⟩
        case measure => simp [intOf]; omega
       ·have HS := Lib.hid (pickW_next step ws G k _ hd p1)
        rw [p1] at hbest; subst hbest
        have hbk : jz2 (avgB step ws G) k < ws.length := by omega
        have c2 := (hB2.cell (p := ⟨g, o + jz2 (avgB step ws G) k, none⟩) (World.block_lt_of_cell? w _ (HC.out _ hbk))).trans (HC.out _ hbk); have c3 := World.rowIs.cell (row_keep HRG.out hBi) (i := k) (by omega); have c4 := World.rowIs.cell (row_keep HRG.out hBi) (i := jz2 (avgB step ws G) k) (by omega); obtain ⟨p1, p2, p3, p4⟩ := fac_all (x := ws.getD k 0) hs (all_get HV.out hlt) (HBD.out _ hbk); obtain ⟨q1, q2, q3, q4⟩ := fac_all (x := ws.getD (jz2 (avgB step ws G) k) 0) hs (all_get HV.out hbk) (HBD.out k hlt)
        have i2 : (0 : Int) ≤ (jz2 (avgB step ws G) k : Int) := by omega
        have i3 : (jz2 (avgB step ws G) k : Int) < (ws.length : Int) := by omega
        have i4 : decide ((jz2 (avgB step ws G) k : Int) < 0) = false := decide_eq_false (by omega); clear hB2; generalize jz2 (avgB step ws G) k = b at *; generalize ws.getD k 0 = x at *; generalize ws.getD b 0 = y at *; generalize G.getD k 0 = u at *; generalize G.getD b 0 = v at *; have t1 : IntKind.i64.wrap (step * v) = step * v := wrap_of (by omega); have t2 : IntKind.i64.wrap (step * u) = step * u := wrap_of (by omega); have t3 : IntKind.i64.wrap (step * v + 1) = step * v + 1 := wrap_of (by omega); have t4 : IntKind.i64.wrap (step * u + 1) = step * u + 1 := wrap_of (by omega); have t5 : IntKind.i64.wrap (x * (step * v + 1)) = x * (step * v + 1) := wrap_of (by omega); have t6 : IntKind.i64.wrap (y * (step * u + 1)) = y * (step * u + 1) := wrap_of (by omega); clear hs hl
        by_cases hxy : y * (step * u + 1) < x * (step * v + 1)
        ·rw [if_pos hxy] at HS
         go_wp2_with fail
         go_quiet (fail)
         go_wp2
         go_roundw
         case rel => exact ⟨k + 1, by omega, by go_num, by rw [HS.out], jqb hBi _⟩
         case measure => simp [intOf]; omega
        ·rw [if_neg hxy] at HS
         go_wp2_with fail
         go_quiet (fail)
         go_wp2
         go_roundw
         case rel => exact ⟨k + 1, by omega, by go_num, by rw [HS.out], jqb hBi _⟩
         case measure => simp [intOf]; omega
      ·have hd2 : decide (0 < ws.getD k 0) = false := decide_eq_false hd
       have HS := Lib.hid (pickW_skip step ws G k hd); subst hbest; clear hB2; generalize ws.getD k 0 = x at *; go_wp2_with fail
       go_quiet (fail)
       go_wp2
       go_roundw
       case rel => exact ⟨k + 1, by omega, by go_num, by rw [HS.out], jqb hBi _⟩
       case measure => simp [intOf]; omega
     ·have ek : k = ws.length := by omega
      subst ek; rw [HPK.out] at hbest; subst hbest; have hy := HBD.out _ hb; clear HPK HP HBD; have RG := row_keep HRG.out hBi; have B4 := jq1 HB.out hBi; have E1 := HE.out; generalize jz2 (avgB step ws G) ws.length = b at *; have hx := World.rowIs.cell RG (i := b) (by omega); have hf := World.rowIs.frozen RG b
      have i0 : (0 : Int) ≤ (b : Int) := by omega
      have i1 : (b : Int) < (ws.length : Int) := by omega
      have sG := row_set RG b (G.getD b 0 + 1) (by omega); rw [← E1] at sG; have sB : Below w.heap.size w (wr.setCell ⟨w.heap.size, b, none⟩ (.int .i64 (G.getD b 0 + 1))) := B4.setCell (Nat.le_refl _) _; have HS := Lib.hid (And.intro sG sB); clear sG sB RG B4 E1 HE HRG HB; generalize G.getD b 0 = y at *
      go_wp2
      go_roundw
      case rel => exact ⟨j + 1, by omega, by go_num, by rw [HG.out]; exact HS.out.1, HS.out.2⟩
      case measure => simp [intOf]; omega
   ·have e : j = n.toNat := by omega
    have HR := Lib.hid RG; clear RG
    go_wp2
    go_ret; exact ⟨w.heap.size, rfl, Nat.le_refl _, by unfold sa; rw [← e]; exact HR.out, hB⟩
theorem spassing (x0 x1 x2 x3 x4 c : Int) (w : World) (hc : 0 ≤ c ∧ c ≤ 500) (h2 : 0 ≤ x2 ∧ x2 ≤ 500) (h3 : 0 ≤ x3 ∧ x3 ≤ 500) :
  Calls Tryz.prog 188 #[.agg #[.int .i64 x0, .int .i64 x1, .int .i64 x2, .int .i64 x3, .int .i64 x4], .int .i64 c] w fun e w' => e = .returned (.int .i64 (jx0 (x0, x1, x2, x3, x4) c)) ∧ Below w.heap.size w w' := by
 have HV : Hid (jx0 (x0, x1, x2, x3, x4) c = min x3 (c - min x2 c)) := pass_min (x := (x0, x1, x2, x3, x4)) h3.1 hc.1 h2.1
 have wz : IntKind.i64.wrap (c - min x2 c) = c - min x2 c := by rw [IntKind.wrap_i64]; omega
 go_enter Tryz.func188, Tryz.ntmps188; go_wp2_with fail
 all_goals (go_ret; exact ⟨jx6 (by rw [HV.out]; omega), by go_grown⟩)
def giveS (ns : List Nd) (k : Int) (p : Int) : List Int := if vwB (wts ns k) = true then sa 2 p (wts ns k) else List.replicate (jz7 ns k).length 0
theorem giveS_len (ns : List Nd) (k : Int) (p : Int) : (giveS ns k p).length = (jz7 ns k).length := by
 unfold giveS; split
 ·rw [sa_len]; unfold wts; rw [wk_len]
 ·rw [List.length_replicate]
theorem giveS_put {ns : List Nd} (hv : vnB ns = true) {fl : Int} {k : Nat} (hk : k < ns.length) : putTo (jz4 ns fl k) (jz7 ns (k : Int)) (giveS ns (k : Int) (jx0 (ns.getD k nd0) ((jz4 ns fl k).getD k 0))) (jz7 ns (k : Int)).length = jz4 ns fl (k + 1) := by
 unfold giveS
 by_cases hw : vwB (wts ns (k : Int)) = true
 ·rw [if_pos hw]; exact step_give hw
 ·rw [if_neg hw]; exact step_zero hv hk hw
theorem wk_take (ns : List Nd) (ks : List Int) (k : Nat) (h : k < ks.length) : (wk ns ks).take (k + 1) = (wk ns ks).take k ++ [(ns.getD (ks.getD k 0).toNat nd0).2.1] := by
 rw [take_snocD (wk ns ks) (by rw [wk_len]; exact h) 0, wk_get ns ks h]
theorem sshareF (a : Option Addr) (cap : Nat) (ns : List Nd) (k : Nat) (p : Int) (w : World) (h : IsNd w a ns) (hv : vnB ns = true) (hp : 0 ≤ p ∧ p ≤ 500) :
  Calls Tryz.prog 197 #[.slice a ns.length cap, .int .i64 (k : Int), .int .i64 p] w (OutI w (giveS ns (k : Int) p)) := by
 obtain ⟨l1, l12, _⟩ := vn_is hv; obtain ⟨i0, hi0, hz0, hz1, hz2⟩ := info_parts jj4; have CK := skids a cap ns (k : Int) w h hv; have hkl := kids_len ns (k : Int)
 have hkm : ∀ z ∈ jz7 ns (k : Int), ∃ j : Nat, z = (j : Int) ∧ j < ns.length := fun z hz => by obtain ⟨j, a, b, _⟩ := kids_bd hz; exact ⟨j, a, b⟩
 have HW1 : Hid (∀ z ∈ wts ns (k : Int), 0 ≤ z ∧ z ≤ 1000) := wts_bd hv (k : Int); have HWZ := Lib.hid (wts_zero hv (k : Int)); have HWE : Hid (wts ns (k : Int) = wk ns (jz7 ns (k : Int))) := rfl; have HGS : Hid (giveS ns (k : Int) p = if vwB (wts ns (k : Int)) = true then sa 2 p (wts ns (k : Int)) else List.replicate (jz7 ns (k : Int)).length 0) := rfl; have HMK := Lib.hid (run_make_row' (P := Tryz.prog) 33 3 (.int .i64 0) 8 Tryz.underlying33 jj4 rfl .i64 .i64 (jz7 ns (k : Int)).length (by omega) (by omega))
 rcases h with rfl | ⟨g, o, rfl, hc⟩
 ·simp at l1
 have HC := Lib.hid hc; have HKM := Lib.hid hkm; clear hc hv hkm; generalize jz7 ns (k : Int) = ks at CK hkl HKM HWE HGS HMK; generalize wts ns (k : Int) = ws at HW1 HWZ HWE HGS; go_enter Tryz.func197, Tryz.ntmps197; go_wp2_with fail; refine CK.mono ?_; rintro e w1 ⟨v7, rfl, hK, hB⟩; obtain ⟨kb, kc, rfl, _⟩ := hK.ints
 have HC1 : Hid (∀ i, i < ns.length → w1.cell? ⟨g, o + i * 5 + 1, none⟩ = some (.int .i64 (ns.getD i nd0).2.1)) := fun i hi => (nd_at HC.out hB hi).2.1
 have HK1 := Lib.hid hK; have HB1 := Lib.hid hB; have hs1 := hB.size; clear CK hK hB HC; go_wp2_with fail
 obtain ⟨V, hV⟩ : ∃ V, V = w1 := ⟨_, rfl⟩
 subst hV
 go_loopw [8, 9] (fun v i wr => ∃ q : Nat, q ≤ ks.length ∧ i = .int .i64 q ∧ OwnI wr V.heap.size v ((wk ns ks).take q) ∧ Below V.heap.size V wr) (fun _ i _ => ks.length - (intOf i).toNat)
 case atStart => exact ⟨0, Nat.zero_le _, rfl, OwnI.new (Below.refl _ V), by go_grown⟩
 case round =>
  obtain ⟨q, hq, rfl, hO, hB⟩ := hrel; have hsz := hB.size
  by_cases hlt : q < ks.length
  ·rcases (HK1.out.of_block hB).at_ with rfl | ⟨gk, ok, rfl, hkc⟩
   ·simp at hlt
   have c1 := hkc q hlt; obtain ⟨j, hj, hjl⟩ := HKM.out _ (jj7 hlt); have c2' := HC1.out j hjl; have c2 := (hB.cell (World.block_lt_of_cell? V _ c2')).trans c2'; have hwt := wk_take ns ks q hlt; rw [hj, show ((j : Int)).toNat = j from by omega] at hwt; rw [hj] at c1
   have hll : ((wk ns ks).take q).length ≤ 1048576 := by rw [List.length_take]; omega
   generalize (ns.getD j nd0).2.1 = z at c2 hwt; generalize (wk ns ks).take q = tk at hO hwt hll
   have b0 : (0 : Int) ≤ (j : Int) := by omega
   have b1 : (j : Int) < (ns.length : Int) := by omega
   have HWT := Lib.hid hwt; clear hkc c2' hwt hj
   go_wp2_with (first | (at_builtin; refine wpList_append_own _ rfl (.tmp 20) (.tmp 29) _ rfl V.heap.size 3 i0 (.int .i64 0) 1 8 Tryz.underlying33 hi0 hz0 hz1 hz2 rfl (by decide) _ _ _ rfl (hO.alloc _) ⟨wr.heap.size, 0, none⟩ 1 1 [.int .i64 z] rfl rfl (cell_one_new _ _ _) (fun x hx => by simp at hx; subst hx; rfl) (by unfold maxLen; omega) (by omega) (by simp; omega) ?_; intro v3 w3 hown3 hgrow3 hnil3))
   have HR : Hid (OwnI w3 V.heap.size v3 ((wk ns ks).take (q + 1)) ∧ Below V.heap.size V w3) := ⟨by rw [HWT.out]; exact OwnI.snoc hown3, (hB.alloc hsz _).grown hgrow3 (by simp; omega) hO.grow⟩
   clear hO hown3 hgrow3 hnil3 hB c1 c2
   go_roundw
   case rel => exact ⟨q + 1, by omega, by go_num, HR.out.1, HR.out.2⟩
   case measure => simp [intOf]; omega
  ·rw [List.take_of_length_le (by rw [wk_len]; omega), ← HWE.out] at hO
   obtain ⟨wb, wc, rfl, hWI⟩ := hO.ints
   have HWL : Hid (ws.length = ks.length) := by show ws.length = ks.length; rw [HWE.out, wk_len]
   have CT := stotal wb wc ws wr hWI (by rw [HWL.out]; omega) (fun z hz => by have := HW1.out z hz; omega); have HB2 := Lib.hid (jq1 HB1.out hB); have HWI := Lib.hid hWI; have hsz2 := HB2.out.size; have HWZ2 := HWZ.out
   obtain ⟨sm, hsm⟩ : ∃ s, ws.sum = s := ⟨_, rfl⟩
   rw [hsm] at CT HWZ2
   have hkq : (q : Int) = (ks.length : Int) := by omega
   clear hB hO hWI hsm; go_wp2_with fail; refine CT.mono ?_; rintro e w' ⟨rfl, rfl⟩; clear CT
   by_cases hw : vwB ws = true
   ·have HGV : Hid (giveS ns (k : Int) p = sa 2 p ws) := by show _ = _; rw [HGS.out, if_pos hw]
    have e1 : (sm == 0) = false := by rw [HWZ2, hw]; rfl
    have CB := sbyAvg 2 p wb wc ws wr HWI.out (by rw [HWL.out]; omega) (by omega) (by rw [cs_is (by omega)]; exact hw); clear hw HWZ2; go_wp2_with fail; refine CB.mono ?_; rintro e w5 ⟨gq, rfl, hg, hr, hb5⟩
    have HE : Hid (OwnI w5 w.heap.size (.slice (some ⟨gq, 0, none⟩) ws.length ws.length) (giveS ns (k : Int) p) ∧ Below w.heap.size w w5) := by
     have := row_own hr (base := w.heap.size) (by omega) (by rw [sa_len, HWL.out]; omega); rw [sa_len] at this; exact ⟨by rw [HGV.out]; exact this, jq1 HB2.out hb5⟩
    clear hg hr hb5 CB; go_wp2_with fail; go_ret; exact ⟨_, rfl, HE.out⟩
   ·have HGV : Hid (giveS ns (k : Int) p = List.replicate ks.length 0) := by show _ = _; rw [HGS.out, if_neg hw]
    have hw2 : vwB ws = false := by simpa using hw
    have e1 : (sm == 0) = true := by rw [HWZ2, hw2]; rfl
    obtain rfl : sm = 0 := by simpa using e1
    have hmk := HMK.out
    have HE : Hid (OwnI (wr.alloc (.cells (madeCells #[.int .i64 0] ks.length) 3)) w.heap.size (.slice (some ⟨wr.heap.size, 0, none⟩) ks.length ks.length) (giveS ns (k : Int) p) ∧ Below w.heap.size w (wr.alloc (.cells (madeCells #[.int .i64 0] ks.length) 3))) := ⟨by rw [HGV.out]; exact OwnI.made HB2.out ks.length (by omega), HB2.out.alloc HB2.out.size _⟩
    clear hw hw2 HWZ2; go_wp2_with fail; go_ret; exact ⟨_, rfl, HE.out⟩
theorem sflows (a : Option Addr) (cap : Nat) (ns : List Nd) (fl : Int) (w : World) (h : IsNd w a ns) (hv : vnB ns = true) (hf : 0 ≤ fl ∧ fl ≤ 500) :
  Calls Tryz.prog 186 #[.slice a ns.length cap, .int .i64 fl] w (OutI w (jj2 ns fl)) := by
 obtain ⟨l1, l12, _⟩ := vn_is hv; have hmk := run_make_row' (P := Tryz.prog) 33 3 (.int .i64 0) 8 Tryz.underlying33 jj4 rfl .i64 .i64 ns.length (by omega) (by omega); have HKID := Lib.hid (fun (W : World) (hW : Below w.heap.size w W) (k : Nat) => skids a cap ns (k : Int) W (jx8 h hW) hv); have HSHR := Lib.hid (fun (W : World) (hW : Below w.heap.size w W) (k : Nat) (p : Int) (hp : 0 ≤ p ∧ p ≤ 500) => sshareF a cap ns k p W (jx8 h hW) hv hp); have HV := Lib.hid hv
 rcases h with rfl | ⟨g0, o, rfl, hc⟩
 ·simp at l1
 have HC := Lib.hid hc
 have i0 : (0 : Int) < (ns.length : Int) := by omega
 have hM := OwnI.made (Below.refl _ w) ns.length (by omega); have hz := hM.cell (j := 0) (by rw [List.length_replicate]; omega); have hzf := hM.frozen 0; have hO0 := hM.set_ 0 fl
 obtain ⟨g, hg⟩ : ∃ g, w.heap.size = g := ⟨_, rfl⟩
 have hgw : w.heap.size ≤ g := by omega
 rw [hg] at hz hzf; rw [List.getD_eq_getElem?_getD, List.getElem?_replicate, if_pos (by omega)] at hz; dsimp only [Option.getD_some] at hz; have hB0 : Below w.heap.size w ((w.alloc (.cells (madeCells #[.int .i64 0] ns.length) 3)).setCell ⟨w.heap.size, 0, none⟩ (.int .i64 fl)) := ((Below.refl _ w).alloc (Nat.le_refl _) _).setCell (p := ⟨w.heap.size, 0, none⟩) (Nat.le_refl _) _; rw [World.setCell_alloc_at _ _ _ _ _ rfl] at hO0 hB0; have HO0 := Lib.hid hO0; have HB0 := Lib.hid hB0; clear hM hO0 hB0 hc hv; go_enter Tryz.func186, Tryz.ntmps186; go_wp2_with fail; clear hmk hz hzf
 go_loopw [6] (fun i wr => ∃ k : Nat, k ≤ ns.length ∧ i = .int .i64 k ∧ OwnI wr w.heap.size (.slice (some ⟨g, 0, none⟩) ns.length ns.length) (jz4 ns fl k) ∧ Below w.heap.size w wr) (fun i _ => ns.length - (intOf i).toNat)
 case atStart => exact ⟨0, Nat.zero_le _, rfl, by subst hg; exact HO0.out, HB0.out⟩
 case round =>
  clear HO0 HB0 hg; obtain ⟨k, hk, rfl, hO, hB⟩ := hrel
  by_cases hlt : k < ns.length
  ·have CK := HKID.out wr hB k
   obtain ⟨q1, q2, q3, q4⟩ := vn_at HV.out hlt; have hcb := comeTo_bd HV.out hf k hk k; have hkl := kids_len ns (k : Int)
   have HKM : Hid (∀ z ∈ jz7 ns (k : Int), ∃ j : Nat, z = (j : Int) ∧ j < ns.length) := fun z hz => by obtain ⟨j, a, b, _⟩ := kids_bd hz; exact ⟨j, a, b⟩
   have HO := Lib.hid hO; have HB := Lib.hid hB; have hgb := hO.blk
   have k0 : (0 : Int) ≤ (k : Int) := by omega
   have k1 : (k : Int) < (ns.length : Int) := by omega
   clear hO hB; go_wp2_with fail; refine CK.mono ?_; rintro e w3 ⟨v7, rfl, hK, hB3⟩; obtain ⟨kb, kcp, rfl, _⟩ := hK.ints; have B3 := Lib.hid (jq1 HB.out hB3); have O3 := Lib.hid (HO.out.of_block hB3); have s3 := hB3.size; have kc := O3.out.cell (j := k) (by rw [jxf]; exact hlt); obtain ⟨c0, c1, c2, c3, c4⟩ := nd_at HC.out B3.out hlt; have HK := Lib.hid hK; have HST := Lib.hid (giveS_put HV.out (fl := fl) hlt); have hgl := giveS_len ns (k : Int) (jx0 (ns.getD k nd0) ((jz4 ns fl k).getD k 0)); have hpb := pass_bd (x := ns.getD k nd0) q3.1 hcb.1 q2.1; have HSH := Lib.hid (fun (W : World) (hW : Below w.heap.size w W) => HSHR.out W hW k (jx0 (ns.getD k nd0) ((jz4 ns fl k).getD k 0)) (by omega)); generalize (jz4 ns fl k).getD k 0 = c at hcb kc HST hgl HSH hpb
   have CP := fun W => spassing (ns.getD k nd0).1 (ns.getD k nd0).2.1 (ns.getD k nd0).2.2.1 (ns.getD k nd0).2.2.2.1 (ns.getD k nd0).2.2.2.2 c W hcb q2 q3
   change ∀ W, Calls _ _ _ W (fun e w' => e = .returned (.int .i64 (jx0 (ns.getD k nd0) c)) ∧ Below W.heap.size W w') at CP; generalize ns.getD k nd0 = nd at c0 c1 c2 c3 c4 CP HST hgl q2 q3 HSH hpb; obtain ⟨x0, x1, x2, x3, x4⟩ := nd; dsimp only at c0 c1 c2 c3 c4 CP; generalize jx0 (x0, x1, x2, x3, x4) c = p at CP HST hgl HSH hpb; clear CK hK hB3 HO HB q1 q2 q3 q4 hcb hpb; go_wp2_with fail; refine wp_region_held_drew (S := (fun W' => (W'.cell? ⟨g0, o + k * 5, none⟩ = some (.int .i64 x0) ∧ W'.cell? ⟨g0, o + k * 5 + 1, none⟩ = some (.int .i64 x1) ∧ W'.cell? ⟨g0, o + k * 5 + 2, none⟩ = some (.int .i64 x2) ∧ W'.cell? ⟨g0, o + k * 5 + 3, none⟩ = some (.int .i64 x3) ∧ W'.cell? ⟨g0, o + k * 5 + 4, none⟩ = some (.int .i64 x4) ∧ W'.cell? ⟨g, k, none⟩ = some (.int .i64 c)) ∧ Below w3.heap.size w3 W')) (by kernel_rfl) ?_ (fun hHeld => ?_)
   ·exact ⟨⟨c0, c1, c2, c3, c4, kc⟩, (Below.refl _ _).drew⟩
   refine tk (i := 0) (v := ?v36) rfl ?c36 ?d_36
   case c36 => (refine .inl ⟨by rfl, ?_⟩; intro w h; (try dsimp only at h); go_simp <;> with_reducible rfl)
   try simp only [pt]
   refine tk (i := 1) (v := ?v37) rfl ?c37 ?d_37
   case c37 => (refine .inl ⟨by rfl, ?_⟩; intro w h; (try dsimp only at h); go_simp <;> with_reducible rfl)
   try simp only [pt]
   refine tk (i := 2) (v := ?v38) rfl ?c38 ?d_38
   case c38 => (refine .inl ⟨by rfl, ?_⟩; intro w h; (try dsimp only at h); go_simp <;> with_reducible rfl)
   try simp only [pt]
   refine tk (i := 3) (v := ?v39) rfl ?c39 ?d_39
   case c39 => (refine .inl ⟨by rfl, ?_⟩; intro w h; (try dsimp only at h); go_simp <;> with_reducible rfl)
   try simp only [pt]
   refine tk (i := 4) (v := ?v3a) rfl ?c3a ?d_3a
   case c3a => (refine .inl ⟨by rfl, ?_⟩; intro w h; (try dsimp only at h); go_simp <;> with_reducible rfl)
   try simp only [pt]
   refine tk (i := 5) (v := ?v3b) rfl ?c3b ?d_3b
   case c3b => (refine .inl ⟨by rfl, ?_⟩; intro w h; (try dsimp only at h); go_simp <;> with_reducible rfl)
   try simp only [pt]
   refine tk (i := 6) (v := ?v3c) rfl ?c3c ?d_3c
   case c3c => (refine .inl ⟨by rfl, ?_⟩; intro w h; (try dsimp only at h); go_simp <;> with_reducible rfl)
   try simp only [pt]
   refine tk (i := 7) (v := ?v3d) rfl ?c3d ?d_3d
   case c3d => (refine .inl ⟨by rfl, ?_⟩; intro w h; (try dsimp only at h); go_simp <;> with_reducible rfl)
   try simp only [pt]
   refine tk (i := 8) (v := ?v3e) rfl ?c3e ?d_3e
   case c3e => (refine .inl ⟨by rfl, ?_⟩; intro w h; (try dsimp only at h); go_simp <;> with_reducible rfl)
   try simp only [pt]
   refine tk (i := 9) (v := ?v3f) rfl ?c3f ?d_3f
   case c3f => (refine .inl ⟨by rfl, ?_⟩; intro w h; (try dsimp only at h); go_simp <;> with_reducible rfl)
   try simp only [pt]
   refine wpAnyH_ready (rs := [10]) (by kernel_rfl) (by simp) (AllReadyH.cons (o := ?ooa10) ?hia10 (fun K hK => ?hka10) AllReadyH.nil)
   rotate_left
   case hia10 => (simp only [List.getElem?_toArray, List.getElem?_cons_succ, List.getElem?_cons_zero]; rfl)
   (rw [if_pos (by rfl)]; go_simp; refine (CP _).mono ?_; rintro e wq ⟨rfl, hb⟩; go_wp2_with fail; refine hK.out _ _ (kp6 hb hHeld) (fun hHeld => ?_); clear hK K)
   try simp only [pt]
   refine wpAnyH_ready (rs := [11]) (by kernel_rfl) (by simp) (AllReadyH.cons (o := ?ooa11) ?hia11 (fun K hK => ?hka11) AllReadyH.nil)
   rotate_left
   case hia11 => (simp only [List.getElem?_toArray, List.getElem?_cons_succ, List.getElem?_cons_zero]; rfl)
   (rw [if_pos (by rfl)]; go_simp; refine (HSH.out _ (jq1 B3.out hHeld.2)).mono ?_; rintro e wp ⟨v8, rfl, hG, hb2⟩; obtain ⟨gb, gcp, rfl, _⟩ := hG.ints; go_wp2_with fail; refine hK.out _ _ (kp6 hb2 hHeld) (fun hHeld => ?_); clear hK K)
   try simp only [pt]
   refine tk (i := 12) (v := ?v40) rfl ?c40 ?d_40
   case c40 => (refine .inl ⟨by rfl, ?_⟩; intro w h; (try dsimp only at h); go_simp <;> with_reducible rfl)
   try simp only [pt]
   refine wpAnyH_done (by kernel_rfl) ?_ _; have hW2 : Below w3.heap.size w3 wp := hHeld.2; have B5 := jq1 B3.out hW2; have O5 := O3.out.of_block hW2; have K5 := HK.out.of_block hW2; have hcl := jxf ns fl k; have s5 : w3.heap.size ≤ wq.heap.size := hb.size; have s6 := hb2.size; have s7 := hHeld.2.size; clear hHeld hb hb2 hW2 CP HSH c0 c1 c2 c3 c4 kc B3 O3 HK; generalize jz7 ns (k : Int) = ks at K5 HKM hkl hgl HST; generalize giveS ns (k : Int) p = gv at hG hgl HST; generalize jz4 ns fl k = cs at O5 hcl HST; have HO5 := Lib.hid O5; have HK5 := Lib.hid K5; have HG5 := Lib.hid hG; have HB5 := Lib.hid B5; clear O5 K5 hG B5; go_wp2_with fail
   go_loopw [9] (fun i wr => ∃ m : Nat, m ≤ gv.length ∧ i = .int .i64 m ∧ Hid (OwnI wr w.heap.size (.slice (some ⟨g, 0, none⟩) ns.length ns.length) (putTo cs ks gv m) ∧ wp.grownBy wr (some g))) (fun i _ => gv.length - (intOf i).toNat)
   case atStart => exact ⟨0, Nat.zero_le _, rfl, HO5.out, g_of (Below.refl _ _) _⟩
   case round =>
    obtain ⟨m, hm, rfl, HM⟩ := hrel
    by_cases hlm : m < gv.length
    ·have hka := HK5.out.apart HM.out.2 (fun q hq => by have e := Option.some.inj hq; omega)
     have hga2 := HG5.out.apart HM.out.2 (fun q hq => by have e := Option.some.inj hq; omega); obtain ⟨gk, rfl, nk'⟩ := hka.form_ (by omega); obtain ⟨gg, rfl, ng'⟩ := hga2.form_ (by omega)
     have nk : g ≠ gk := by omega
     have ng : g ≠ gg := by omega
     have c1 := hka.cell (j := m) (by omega); have c2 := hga2.cell hlm; obtain ⟨j, hj, hjl⟩ := HKM.out _ (jj7 (zs := ks) (k := m) (by omega)); have hpl := putTo_len cs ks gv m; have c3 := HM.out.1.cell (j := j) (by omega); have c4 := HM.out.1.frozen j; have hst := HM.out.1.set_ j (gv.getD m 0); have hps := putTo_succ cs ks gv m; rw [hj, show ((j : Int)).toNat = j from by omega] at hps; rw [← hps] at hst; rw [hj] at c1
     have HS : Hid (∀ n : Nat, OwnI ((wr.drewN n).setCell ⟨g, j, none⟩ (.int .i64 (gv.getD m 0))) w.heap.size (.slice (some ⟨g, 0, none⟩) ns.length ns.length) (putTo cs ks gv (m + 1)) ∧ wp.grownBy ((wr.drewN n).setCell ⟨g, j, none⟩ (.int .i64 (gv.getD m 0))) (some g)) := fun n => ⟨hst, g_set2 (g_drewN HM.out.2 n)⟩
     have b0 : (0 : Int) ≤ (j : Int) := by omega
     have b1 : (j : Int) < (ns.length : Int) := by omega
     have b2 : (m : Int) < (gv.length : Int) := by omega
     have b3 : (m : Int) < (ks.length : Int) := by omega
     have b4 : (0 : Int) ≤ (m : Int) := by omega
     generalize gv.getD m 0 = y at c2 HS; generalize (putTo cs ks gv m).getD j 0 = y3 at c3; clear hst hps hj hpl HM hka hga2; go_wp2_with fail; refine wp_region_held_drew (S := (fun W' => W'.cell? ⟨gk, m, none⟩ = some (.int .i64 (j : Int)) ∧ W'.cell? ⟨gg, m, none⟩ = some (.int .i64 y))) (by kernel_rfl) ?_ (fun hHeld => ?_)
     ·exact ⟨c1, c2⟩
     refine tk (i := 0) (v := ?v41) rfl ?c41 ?d_41
     case c41 => (refine .inl ⟨by rfl, ?_⟩; intro w h; (try dsimp only at h); go_simp <;> with_reducible rfl)
     try simp only [pt]
     refine tk (i := 1) (v := ?v42) rfl ?c42 ?d_42
     case c42 => (refine .inl ⟨by rfl, ?_⟩; intro w h; (try dsimp only at h); go_simp <;> with_reducible rfl)
     try simp only [pt]
     refine tk (i := 2) (v := ?v43) rfl ?c43 ?d_43
     case c43 => (refine .inl ⟨by rfl, ?_⟩; intro w h; (try dsimp only at h); go_simp <;> with_reducible rfl)
     try simp only [pt]
     refine tk (i := 3) (v := ?v44) rfl ?c44 ?d_44
     case c44 => (refine .inl ⟨by rfl, ?_⟩; intro w h; (try dsimp only at h); go_simp <;> with_reducible rfl)
     try simp only [pt]
     refine tk (i := 4) (v := ?v45) rfl ?c45 ?d_45
     case c45 => (refine .inl ⟨by rfl, ?_⟩; intro w h; (try dsimp only at h); go_simp <;> with_reducible rfl)
     try simp only [pt]
     refine tk (i := 5) (v := ?v46) rfl ?c46 ?d_46
     case c46 => (refine .inl ⟨by rfl, ?_⟩; intro w h; (try dsimp only at h); go_simp <;> with_reducible rfl)
     try simp only [pt]
     refine tk (i := 6) (v := ?v47) rfl ?c47 ?d_47
     case c47 => (refine .inl ⟨by rfl, ?_⟩; intro w h; (try dsimp only at h); go_simp <;> with_reducible rfl)
     try simp only [pt]
     refine tk (i := 7) (v := ?v48) rfl ?c48 ?d_48
     case c48 => (refine .inl ⟨by rfl, ?_⟩; intro w h; (try dsimp only at h); go_simp <;> with_reducible rfl)
     try simp only [pt]
     refine tk (i := 8) (v := ?v49) rfl ?c49 ?d_49
     case c49 => (refine .inl ⟨by rfl, ?_⟩; intro w h; (try dsimp only at h); go_simp <;> with_reducible rfl)
     try simp only [pt]
     refine tk (i := 9) (v := ?v4a) rfl ?c4a ?d_4a
     case c4a => (refine .inl ⟨by rfl, ?_⟩; intro w h; (try dsimp only at h); go_simp <;> with_reducible rfl)
     try simp only [pt]
     refine wpAnyH_ready (rs := [10]) (by kernel_rfl) (by simp) (AllReadyH.cons (o := ?oob10) ?hib10 (fun K hK => ?hkb10) AllReadyH.nil)
     rotate_left
     case hib10 => (simp only [List.getElem?_toArray, List.getElem?_cons_succ, List.getElem?_cons_zero]; rfl)
     (rw [if_pos (by rfl)]; go_simp; refine hK.out _ _ (⟨(World.cell?_setCell_other _ _ _ _ (fun e => nk (congrArg Addr.block e))).trans hHeld.1, (World.cell?_setCell_other _ _ _ _ (fun e => ng (congrArg Addr.block e))).trans hHeld.2⟩) (fun hHeld => ?_); clear hK K)
     try simp only [pt]
     refine wpAnyH_done (by kernel_rfl) ?_ _; go_wp2_with fail
     go_roundw
     case rel => exact ⟨m + 1, by omega, by go_num, HS.out 1⟩
     case measure => simp [intOf]; omega
    ·have HE : Hid (OwnI wr w.heap.size (.slice (some ⟨g, 0, none⟩) ns.length ns.length) (jz4 ns fl (k + 1)) ∧ Below w.heap.size w wr) := by
      refine ⟨?_, below_gv HB5.out HM.out.2 (fun q hq => by have e := Option.some.inj hq; omega)⟩; rw [← HST.out]; have := HM.out.1; rw [show m = ks.length from by omega] at this; exact this
     have hmk2 : (m : Int) = (ks.length : Int) := by omega
     clear HM; go_wp2_with fail
     go_roundw
     case rel => exact ⟨k + 1, by omega, by go_num, HE.out⟩
     case measure => simp [intOf]; omega
  ·have HO := Lib.hid hO
   have HB := Lib.hid hB; clear hO hB; go_wp2_with fail; go_ret; exact ⟨_, rfl, by rw [show k = ns.length from by omega] at HO; exact HO.out, HB.out⟩
theorem got_bd {ns : List Nd} (hv : vnB ns = true) {fl : Int} (hf : 0 ≤ fl ∧ fl ≤ 500) (k : Int) : ∀ m, m ≤ (jz7 ns k).length → 0 ≤ ((gotL ns fl k).take m).sum ∧ ((gotL ns fl k).take m).sum ≤ 500 * (m : Int) := by
  intro m
  induction m with
  | zero => intro _; exact ⟨Int.le_refl _, by show (0 : Int) ≤ 500 * ((0 : Nat) : Int); omega⟩
  | succ m ih =>
    intro hm; have a := ih (by omega); rw [take_sum _ m (by rw [gotL_len]; omega), gotL_get ns fl k (by omega)]
    have b := come_bd hv hf ((jz7 ns k).getD m 0).toNat
    omega
theorem sLost (a : Option Addr) (cap : Nat) (ns : List Nd) (fl : Int) (w : World) (h : IsNd w a ns) (hn : ns.length ≤ 1048576) :
    Calls Tryz.prog 153 #[.slice a ns.length cap, .int .i64 fl] w fun e w' => e = .returned (.int .i64 (jqj ns fl)) ∧ Below w.heap.size w w' := by
  have VN := svn a cap ns _ h hn
  have CW := fun W => sinRange fl 0 500 W
  cases hv : vnB ns with
  | false =>
    rw [lost_no (flB_no (.inl hv))]; rw [hv] at VN; clear hv h; go_enter Tryz.func153, Tryz.ntmps153; go_wp2_with fail; refine VN.mono ?_; rintro e w1 ⟨rfl, C⟩; go_wp2_with fail; go_ret; exact ⟨rfl, C⟩
  | true =>
  rw [hv] at VN
  cases hw : (decide (0 ≤ fl) && decide (fl ≤ 500)) with
  | false =>
    rw [lost_no (flB_no (.inr hw))]; rw [hw] at CW; clear hv hw h; go_enter Tryz.func153, Tryz.ntmps153; go_wp2_with fail; refine VN.mono ?_; rintro e w1 ⟨rfl, C⟩; go_wp2_with fail; refine (CW _).mono ?_; rintro e w' ⟨rfl, rfl⟩; go_wp2_with fail; go_ret; exact ⟨rfl, C⟩
  | true =>
  have hb : flB ns fl = true := by unfold flB; rw [hv, hw]; rfl
  rw [hw] at CW; have hf := (flB_is hb).2; rw [lost_yes hb]; obtain ⟨l1, l12, _⟩ := vn_is hv; have HF := Lib.hid (fun (W : World) (hW : Below w.heap.size w W) => sflows a cap ns fl W (jx8 h hW) hv hf); have HKID := Lib.hid (fun (W : World) (hW : Below w.heap.size w W) (k : Nat) => skids a cap ns (k : Int) W (jx8 h hW) hv); have HV := Lib.hid hv
  rcases h with rfl | ⟨g0, o, rfl, hc⟩
  · simp at l1
  have HC := Lib.hid hc; clear hb hw hc hv; go_enter Tryz.func153, Tryz.ntmps153; go_wp2_with fail; refine VN.mono ?_; rintro e w1 ⟨rfl, C⟩; go_wp2_with fail; refine (CW _).mono ?_; rintro e w' ⟨rfl, rfl⟩; clear VN CW; go_wp2_with fail; refine (HF.out w1 C).mono ?_; rintro e w2 ⟨v5, rfl, hO, hB⟩; have hcl : (jj2 ns fl).length = ns.length := jxf ns fl _; obtain ⟨cb, cc, rfl, _⟩ := hO.ints; obtain ⟨gc, rfl, hgc⟩ := hO.form_ (by omega); rw [hcl] at hO ⊢; have HO2 : Hid (OwnI w2 w1.heap.size (.slice (some ⟨gc, 0, none⟩) ns.length cc) (jj2 ns fl)) := hO; have HB2 := Lib.hid (jq1 C hB); clear hO hB C HF; go_wp2_with fail
  obtain ⟨V, hV⟩ : ∃ V, V = w2 := ⟨_, rfl⟩
  subst hV
  go_loopw [6, 7] (fun s i wr => ∃ k : Nat, k ≤ ns.length ∧ i = .int .i64 k ∧ s = .int .i64 (lostTo ns fl k) ∧ Below V.heap.size V wr) (fun _ i _ => ns.length - (intOf i).toNat)
  case atStart => exact ⟨0, Nat.zero_le _, rfl, rfl, Below.refl _ _⟩
  case round =>
    obtain ⟨k, hk, rfl, rfl, hB⟩ := hrel; obtain ⟨s0, s1⟩ := lost_bd HV.out hf k hk
    have s2 : lostTo ns fl k ≤ 6000 := by omega
    by_cases hlt : k < ns.length
    · have CK := HKID.out wr (jq1 HB2.out hB) k
      have hls := lostTo_succ ns fl k; rw [loss_got HV.out hf hlt] at hls; have hkl := kids_len ns (k : Int)
      have HKM : Hid (∀ z ∈ jz7 ns (k : Int), ∃ j : Nat, z = (j : Int) ∧ j < ns.length) := fun z hz => by obtain ⟨j, a, b, _⟩ := kids_bd hz; exact ⟨j, a, b⟩
      have HGB := Lib.hid (got_bd HV.out hf (k : Int)); have HGG := Lib.hid (fun m (hm : m < (jz7 ns (k : Int)).length) => gotL_get ns fl (k : Int) hm); have hgl := gotL_len ns fl (k : Int); have HLS := Lib.hid hls; have HB := Lib.hid hB; clear hls hB s1; generalize lostTo ns fl k = s at HLS s0 s2; go_wp2_with fail; refine CK.mono ?_; rintro e w5 ⟨v8, rfl, hK, hB3⟩; obtain ⟨kb, kcp, rfl, _⟩ := hK.ints; have B5 := Lib.hid (jq1 HB.out hB3); have O5 := Lib.hid (HO2.out.of_block B5.out); have HK := Lib.hid hK; clear CK hK hB3 HB; generalize jz7 ns (k : Int) = ks at HKM HGB HGG hgl hkl HLS HK; generalize gotL ns fl (k : Int) = gl at HGB HGG hgl HLS; go_wp2_with fail
      go_loop [9, 10] (fun g i => ∃ m : Nat, m ≤ ks.length ∧ i = .int .i64 m ∧ g = .int .i64 (gl.take m).sum) (fun _ i => ks.length - (intOf i).toNat)
      case atStart => exact ⟨0, Nat.zero_le _, rfl, rfl⟩
      case round =>
        obtain ⟨m, hm, rfl, rfl⟩ := hrel; obtain ⟨t0, t1⟩ := HGB.out m hm
        by_cases hlm : m < ks.length
        · obtain ⟨gk, rfl, _⟩ := HK.out.form_ (by omega)
          have c1 := HK.out.cell hlm; obtain ⟨j, hj, hjl⟩ := HKM.out _ (jj7 hlm); have c2 := O5.out.cell (j := j) (by omega); have hcb := come_bd HV.out hf j; have ht := take_sum gl m (by omega); rw [HGG.out m hlm, hj, show ((j : Int)).toNat = j from by omega] at ht; rw [hj] at c1; generalize (jj2 ns fl).getD j 0 = y at c2 hcb ht; generalize (gl.take m).sum = t at t0 t1 ht; have HT := Lib.hid ht
          have b0 : (0 : Int) ≤ (j : Int) := by omega
          have b1 : (j : Int) < (ns.length : Int) := by omega
          have t2 : t ≤ 6000 := by omega
          clear ht hj; go_wp2_with fail
          go_round
          case rel => exact ⟨m + 1, by omega, by go_num, by rw [HT.out]⟩
          case measure => simp [intOf]; omega
        · have hm2 : m = ks.length := by omega
          subst hm2; rw [List.take_of_length_le (by omega)] at t0 t1 ⊢; obtain ⟨c0, c1, c2, c3, c4⟩ := nd_at HC.out (jq1 HB2.out B5.out) hlt; have kc := O5.out.cell (j := k) (by omega); have hcb := come_bd HV.out hf k; have hpb := passF_bd HV.out hf hlt; obtain ⟨q1, q2, q3, q4⟩ := vn_at HV.out hlt; have hpg := passF_get ns fl hlt
          have k0 : (0 : Int) ≤ (k : Int) := by omega
          have k1 : (k : Int) < (ns.length : Int) := by omega
          have t2 : gl.sum ≤ 6000 := by omega
          by_cases hz : ks.length = 0
          · have hls := HLS.out
            rw [if_pos hz] at hls
            have CP := fun W => spassing (ns.getD k nd0).1 (ns.getD k nd0).2.1 (ns.getD k nd0).2.2.1 (ns.getD k nd0).2.2.2.1 (ns.getD k nd0).2.2.2.2 ((jj2 ns fl).getD k 0) W hcb q2 q3
            change ∀ W, Calls _ _ _ W (fun e w' => e = .returned (.int .i64 (jx0 (ns.getD k nd0) ((jj2 ns fl).getD k 0))) ∧ Below W.heap.size W w') at CP; rw [← hpg] at CP
            have kcW : ∀ W, Below w5.heap.size w5 W → W.cell? ⟨gc, k, none⟩ = some (.int .i64 ((jj2 ns fl).getD k 0)) := fun W hW => (hW.cell (World.block_lt_of_cell? w5 _ kc)).trans kc
            have HKW := Lib.hid kcW; generalize (jj2 ns fl).getD k 0 = c at kc CP hcb hpb hls HKW; generalize ns.getD k nd0 = nd at c0 c1 c2 c3 c4 CP hpb; obtain ⟨x0, x1, x2, x3, x4⟩ := nd; dsimp only at c0 c1 c2 c3 c4 CP; generalize (jv4 ns fl).getD k 0 = p at CP hpb hls
            obtain ⟨n, hnn⟩ : ∃ n, ks.length = n := ⟨_, rfl⟩
            rw [hnn] at hz ⊢; subst hz; have HLS2 := Lib.hid hls; have p0 := hpb.1; have p1 := hpb.2.1; clear hls hnn hpb q1 q2 q3 q4 hpg kcW HLS; generalize gl.sum = gs at t0 t1 t2; go_wp2_with fail; refine wp_region_held_drew (S := (fun W' => (W'.cell? ⟨g0, o + k * 5, none⟩ = some (.int .i64 x0) ∧ W'.cell? ⟨g0, o + k * 5 + 1, none⟩ = some (.int .i64 x1) ∧ W'.cell? ⟨g0, o + k * 5 + 2, none⟩ = some (.int .i64 x2) ∧ W'.cell? ⟨g0, o + k * 5 + 3, none⟩ = some (.int .i64 x3) ∧ W'.cell? ⟨g0, o + k * 5 + 4, none⟩ = some (.int .i64 x4) ∧ W'.cell? ⟨gc, k, none⟩ = some (.int .i64 c)) ∧ Below w5.heap.size w5 W')) (by kernel_rfl) ?_ (fun hHeld => ?_)
            · exact ⟨⟨c0, c1, c2, c3, c4, kc⟩, (Below.refl _ _).drew⟩
            refine tk (i := 0) (v := ?v4b) rfl ?c4b ?d_4b
            case c4b => (refine .inl ⟨by rfl, ?_⟩; intro w h; (try dsimp only at h); go_simp <;> with_reducible rfl)
            try simp only [pt]
            refine tk (i := 1) (v := ?v4c) rfl ?c4c ?d_4c
            case c4c => (refine .inl ⟨by rfl, ?_⟩; intro w h; (try dsimp only at h); go_simp <;> with_reducible rfl)
            try simp only [pt]
            refine tk (i := 2) (v := ?v4d) rfl ?c4d ?d_4d
            case c4d => (refine .inl ⟨by rfl, ?_⟩; intro w h; (try dsimp only at h); go_simp <;> with_reducible rfl)
            try simp only [pt]
            refine tk (i := 3) (v := ?v4e) rfl ?c4e ?d_4e
            case c4e => (refine .inl ⟨by rfl, ?_⟩; intro w h; (try dsimp only at h); go_simp <;> with_reducible rfl)
            try simp only [pt]
            refine tk (i := 4) (v := ?v4f) rfl ?c4f ?d_4f
            case c4f => (refine .inl ⟨by rfl, ?_⟩; intro w h; (try dsimp only at h); go_simp <;> with_reducible rfl)
            try simp only [pt]
            refine tk (i := 5) (v := ?v50) rfl ?c50 ?d_50
            case c50 => (refine .inl ⟨by rfl, ?_⟩; intro w h; (try dsimp only at h); go_simp <;> with_reducible rfl)
            try simp only [pt]
            refine tk (i := 6) (v := ?v51) rfl ?c51 ?d_51
            case c51 => (refine .inl ⟨by rfl, ?_⟩; intro w h; (try dsimp only at h); go_simp <;> with_reducible rfl)
            try simp only [pt]
            refine tk (i := 7) (v := ?v52) rfl ?c52 ?d_52
            case c52 => (refine .inl ⟨by rfl, ?_⟩; intro w h; (try dsimp only at h); go_simp <;> with_reducible rfl)
            try simp only [pt]
            refine wpAnyH_ready (rs := [8]) (by kernel_rfl) (by simp) (AllReadyH.cons (o := ?ooa8) ?hia8 (fun K hK => ?hka8) AllReadyH.nil)
            rotate_left
            case hia8 => (simp only [List.getElem?_toArray, List.getElem?_cons_succ, List.getElem?_cons_zero]; rfl)
            (rw [if_pos (by rfl)]; go_simp; refine (CP _).mono ?_; rintro e wp ⟨rfl, hb2⟩; go_wp2_with fail; refine hK.out _ _ (kp6 hb2 hHeld) (fun hHeld => ?_); clear hK K)
            try simp only [pt]
            refine tk (i := 9) (v := ?v53) rfl ?c53 ?d_53
            case c53 => (refine .inl ⟨by rfl, ?_⟩; intro w h; (try dsimp only at h); go_simp <;> with_reducible rfl)
            try simp only [pt]
            refine wpAnyH_done (by kernel_rfl) ?_ _; have kc2 := HKW.out wp hHeld.2; have HB6 := Lib.hid (jq1 B5.out hHeld.2); clear hHeld hb2 CP c0 c1 c2 c3 c4 kc; go_wp2_with fail
            go_roundw
            case rel => exact ⟨k + 1, by omega, by go_num, by rw [HLS2.out, show s + (c - p) = s + c - p from by omega], HB6.out⟩
            case measure => simp [intOf]; omega
          · have hls := HLS.out
            rw [if_neg hz] at hls; have z0 : ((ks.length : Int) == 0) = false := beq_eq_false_iff_ne.2 (by omega); have z1 : (ks.length == 0) = false := beq_eq_false_iff_ne.2 hz
            have z2 : ¬ ks = [] := fun e => hz (by rw [e]; rfl)
            have HLS2 := Lib.hid hls; generalize (jj2 ns fl).getD k 0 = c at kc hcb HLS2; generalize gl.sum = gs at t0 t1 t2 HLS2; have HB6 := Lib.hid B5.out; clear hls c0 c1 c2 c3 c4 q1 q2 q3 q4 hpg hpb HLS; go_wp2_with fail
            go_roundw
            case rel => exact ⟨k + 1, by omega, by go_num, by rw [HLS2.out, show s + (c - gs) = s + c - gs from by omega], HB6.out⟩
            case measure => simp [intOf]; omega
    · have H4 := Lib.hid (jq1 HB2.out hB)
      clear hB; go_wp2_with fail; go_ret; exact ⟨jx6 (by rw [show k = ns.length from by omega]), H4.out⟩
theorem sturnAt (a : Option Addr) (cap : Nat) (ts : List Tn) (t : Int) (w : World) (h : IsTn w a ts) (hv : vtB ts = true) (t0 : 0 ≤ t) (t1 : t ≤ 1000000) :
  Calls Tryz.prog 156 #[.slice a ts.length cap, .int .i64 t] w fun e w' => e = .returned (.int .i64 (idxT ts (t % sumT ts) : Nat)) ∧ w = w' := by
 obtain ⟨l1, l2, ho, s0, s1⟩ := vt_is hv; have H := Lib.hid h; have SP := speriod a cap ts w h (by omega) (vt_hz ho)
 rcases h with rfl | ⟨g, o, rfl, hc⟩
 ·simp at l1
 have HC := Lib.hid hc; have HO := Lib.hid ho
 have HP : Hid (∀ j, j < ts.length → 0 ≤ (ts.getD j tn0).2) := fun j hj => (vt_hz ho j hj).1
 have r0 := Int.emod_nonneg t (show sumT ts ≠ 0 by omega); have r1 := Int.emod_lt_of_pos t (show 0 < sumT ts by omega); have HR : Hid (t % sumT ts < sumT ts) := r1
 obtain ⟨r, hr⟩ : ∃ r, t % sumT ts = r := ⟨_, rfl⟩
 rw [hr] at HR r0 r1 ⊢
 obtain ⟨S, hS⟩ : ∃ S, sumT ts = S := ⟨_, rfl⟩
 rw [hS] at hr SP s0 s1 r1; have HS := Lib.hid hS; clear hc ho hv hS; go_enter Tryz.func156, Tryz.ntmps156; go_wp2_with fail; refine SP.mono ?_; rintro e w' ⟨rfl, rfl⟩; go_wp2_with fail
 go_loop [1, 5] (fun x i => ∃ k : Nat, k < ts.length ∧ i = .int .i64 k ∧ x = .int .i64 (r - sumT (ts.take k)) ∧ Hid (sumT (ts.take k) ≤ r)) (fun _ i => ts.length - (intOf i).toNat)
 case atStart => exact ⟨0, by omega, rfl, by show Value.int .i64 (t % S) = Value.int .i64 (r - 0); rw [hr]; simp, r0⟩
 case round =>
  obtain ⟨k, hlt, rfl, rfl, hle⟩ := hrel; obtain ⟨c0, c1⟩ := HC.out k hlt; have hs := sumT_succ hlt; have ok := (okT_iff ts k).1 (HO.out k hlt); have hsl := sumT_pos k ts (fun j hj => HP.out j (by omega))
  have hidx : r < sumT (ts.take (k + 1)) → idxT ts r = k := fun c => idx_at k ts r hlt HP.out hle.out c
  have hmore : sumT (ts.take (k + 1)) ≤ r → k + 1 < ts.length := fun c => by
   rcases Nat.lt_or_ge (k + 1) ts.length with h | h
   ·exact h
   ·have e : k + 1 = ts.length := by omega
    rw [e, sumT_all] at c; have := HR.out
    omega
  rw [hs] at hidx hmore; have hle2 := hle.out; generalize ts.getD k tn0 = hh at c0 c1 hs hidx hmore ok; obtain ⟨x, y⟩ := hh; dsimp only at c0 c1 hs hidx hmore ok; have y0 : 1 ≤ y := ok.2.2.1; have y1 : y ≤ 336 := ok.2.2.2; generalize sumT (ts.take k) = s at hs hidx hmore hle hle2 hsl; have HSs := Lib.hid hs; have HI := Lib.hid hidx; have HM := Lib.hid hmore; clear hs hidx hmore ok
  by_cases c : y ≤ r - s
  ·have HM2 := HM.out (by omega)
   have e1 : decide (y ≤ r - s) = true := decide_eq_true c
   have hle3 : Hid (s + y ≤ r) := by show s + y ≤ r; omega
   clear hle hle2
   go_wp2
   go_round
   case rel => exact ⟨k + 1, HM2, by go_num, by rw [HSs.out]; congr 1; omega, by rw [HSs.out]; exact hle3.out⟩
   case measure => simp [intOf]; omega
  ·have e1 : decide (y ≤ r - s) = false := decide_eq_false c
   have HI2 := Lib.hid (HI.out (by omega)); clear hle hle2 c
   go_wp2
   go_ret; exact ⟨jx6 (by rw [HI2.out]), rfl⟩
theorem vl_len {hs : List Hd} (h : vlR hs = true) : hs.length ≤ 12 := by
 unfold vlR at h; simp only [Bool.and_eq_true, decide_eq_true_eq] at h; exact h.1.1.1
theorem hs_at {w W : World} {g o : Nat} {hs : List Hd} (hc : ∀ i, i < hs.length → w.cell? ⟨g, o + i * 3, none⟩ = some (.int .i64 (hs.getD i hd0).1) ∧ w.cell? ⟨g, o + i * 3 + 1, none⟩ = some (.int .i64 (hs.getD i hd0).2.1) ∧ w.cell? ⟨g, o + i * 3 + 2, none⟩ = some (.int .i64 (hs.getD i hd0).2.2)) (hB : Below w.heap.size w W) {k : Nat} (hk : k < hs.length) : W.cell? ⟨g, o + k * 3, none⟩ = some (.int .i64 (hs.getD k hd0).1) ∧ W.cell? ⟨g, o + k * 3 + 1, none⟩ = some (.int .i64 (hs.getD k hd0).2.1) ∧ W.cell? ⟨g, o + k * 3 + 2, none⟩ = some (.int .i64 (hs.getD k hd0).2.2) := by
 obtain ⟨c0, c1, c2⟩ := hc k hk; exact ⟨(hB.cell (World.block_lt_of_cell? w _ c0)).trans c0, (hB.cell (World.block_lt_of_cell? w _ c1)).trans c1, (hB.cell (World.block_lt_of_cell? w _ c2)).trans c2⟩
theorem eqHd (a b : Option Addr) (ca cb : Nat) (xs : List Hd) (w : World) (ha : IsHs w a xs) (hb : IsHs w b xs) (hn : xs.length ≤ 1048576) :
  Calls Tryz.prog 33 #[.slice a xs.length ca, .slice b xs.length cb] w fun e w' => e = .returned (.bool true) ∧ Below w.heap.size w w' := by
 rcases ha with rfl | ⟨g, o, rfl, hc⟩
 ·go_enter Tryz.func33, Tryz.ntmps33
  go_wp2
  go_rounds 1
  go_ret; exact ⟨rfl, by go_grown⟩
 ·rcases hb with rfl | ⟨g2, o2, rfl, hc2⟩
  ·go_enter Tryz.func33, Tryz.ntmps33
   go_wp2
   go_rounds 1
   go_ret; exact ⟨rfl, by go_grown⟩
  ·have HC := Lib.hid hc
   have HD := Lib.hid hc2; clear hc hc2; go_enter Tryz.func33, Tryz.ntmps33
   go_wp2
   go_loopw [5] (fun i wr => ∃ k : Nat, k ≤ xs.length ∧ i = .int .i64 k ∧ Below w.heap.size w wr) (fun i _ => xs.length - (intOf i).toNat)
   case atStart => exact ⟨0, Nat.zero_le _, rfl, by go_grown⟩
   case round =>
    obtain ⟨k, hk, rfl, hB⟩ := hrel
    by_cases hlt : k < xs.length
    ·obtain ⟨c0, c1, c2⟩ := hs_at HC.out hB hlt
     obtain ⟨d0, d1, d2⟩ := hs_at HD.out hB hlt; generalize xs.getD k hd0 = hh at c0 c1 c2 d0 d1 d2; obtain ⟨x0, x1, x2⟩ := hh; dsimp only at c0 c1 c2 d0 d1 d2; have HB := Lib.hid hB; clear hB
     have i0 : (0 : Int) ≤ (k : Int) := by omega
     have i1 : (k : Int) < (xs.length : Int) := by omega
     go_wp2_with fail
     go_quiet (fail)
     go_wp2_with fail
     go_roundw
     case rel => exact ⟨k + 1, by omega, by go_num, jqb HB.out _⟩
     case measure => simp [intOf]; omega
    ·obtain rfl : k = xs.length := by omega
     go_wp2_with fail; go_ret; exact ⟨rfl, hB⟩
end Go.Proofs.YtaehemmjemhgpabGreat
