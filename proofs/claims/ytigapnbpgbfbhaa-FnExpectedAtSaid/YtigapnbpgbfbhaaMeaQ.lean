/- Measures (pure): what the promises of honest and of taken water ask. No condition but those stated. -/
import Derived.Test.YtigapnbpgbfbhaaMeaP
import Derived.Test.YtigapnbpgbfbhaaNodR
namespace Go.Proofs.Ytigapnbpgbfbhaa
set_option linter.unusedVariables false
set_option linter.unusedSimpArgs false
theorem vn_up {ns : List Nd} (hv : vnB ns = true) {j : Nat} (hj : j < ns.length) (h0 : 0 < j) : ∃ p : Nat, (ns.getD j nd0).1 = (p : Int) ∧ p < j := by
  have := vn_par hv hj h0
  exact ⟨(ns.getD j nd0).1.toNat, by omega, by omega⟩
theorem comeF_len (ns : List Nd) (fl : Int) : (comeF ns fl).length = ns.length := comeTo_len ns fl _
theorem come_all {ns : List Nd} (hv : vnB ns = true) {fl : Int} (hf : 0 ≤ fl ∧ fl ≤ 500) : vmB ns (comeF ns fl) = true :=
  vm_yes hv (comeF_len ns fl) (allB_yes fun i _ => come_bd hv hf i)
theorem mea_all {ns : List Nd} {fl : Int} {ts : List Int} (h : vkB ns fl ts = true) : vmB ns (meaF ns fl ts) = true := by
  obtain ⟨hm, hf⟩ := vk_is h
  obtain ⟨hv, hl, ha⟩ := vm_is hm
  exact vm_yes hv (meaF_len ns fl ts) (allB_yes fun i _ => mea_bd hv hf (fun j => (allM_get ha j).1) ns.length (Nat.le_refl _) i)
/-- honest water comes as expected -/
theorem exp_honest {ns : List Nd} (hv : vnB ns = true) (fl : Int) : expF ns (comeF ns fl) = comeF ns fl := by
  refine ext_z (by rw [expF_len, comeF_len]) (fun j hj => ?_)
  rw [expF_len] at hj
  by_cases h0 : j = 0
  · subst h0; rw [exp_root hv]
  · obtain ⟨p, hp, _⟩ := vn_up hv hj (by omega)
    rw [exp_kid hv _ hj hp, come_kid2 hv fl hj hp]
/-- what is taken is missing -/
theorem mis_taken {ns : List Nd} {fl : Int} {ts : List Int} (h : vkB ns fl ts = true) {j : Nat} (hj : j < ns.length) : (misF ns (meaF ns fl ts)).getD j 0 = if j = 0 then 0 else min (ts.getD j 0) ((expF ns (meaF ns fl ts)).getD j 0) := by
  obtain ⟨hm, hf⟩ := vk_is h
  obtain ⟨hv, hl, ha⟩ := vm_is hm
  rw [misF_get hj]
  by_cases h0 : j = 0
  · subst h0; rw [if_pos rfl, exp_root hv]; omega
  · rw [if_neg h0]
    obtain ⟨p, hp, _⟩ := vn_up hv hj (by omega)
    rw [mea_kid hv (fun j => (allM_get ha j).1) fl hj hp, exp_kid hv _ hj hp]
    omega
theorem exp_bd2 {ns : List Nd} {ms : List Int} (hm : vmB ns ms = true) (j : Nat) : 0 ≤ (expF ns ms).getD j 0 ∧ (expF ns ms).getD j 0 ≤ 500 := exp_bd hm ns.length (Nat.le_refl _) j
theorem mis_honest {ns : List Nd} (hv : vnB ns = true) (fl : Int) {j : Nat} (hj : j < ns.length) : (misF ns (comeF ns fl)).getD j 0 = 0 := by
  rw [misF_get hj, exp_honest hv]; omega
theorem susTo_nil {zs : List Int} {s : Int} : ∀ k, (∀ j, j < k → ¬ s < zs.getD j 0) → susTo zs s k = [] := by
  intro k
  induction k with
  | zero => intro _; rfl
  | succ k ih => intro h; rw [susTo_no (h k (by omega)), ih (fun j hj => h j (by omega))]
theorem susTo_asc (zs : List Int) (s : Int) : ∀ k i j, i < j → j < (susTo zs s k).length → (susTo zs s k).getD i 0 < (susTo zs s k).getD j 0 := by
  intro k
  induction k with
  | zero => intro i j _ h; exact absurd h (Nat.not_lt_zero _)
  | succ k ih =>
    intro i j hij hj
    by_cases h : s < zs.getD k 0
    · rw [susTo_yes h] at hj ⊢
      rw [List.length_append] at hj
      have hj' : j < (susTo zs s k).length + 1 := hj
      by_cases e : j < (susTo zs s k).length
      · rw [app_l e, app_l (by omega)]
        exact ih i j hij e
      · have e2 : j = (susTo zs s k).length := by omega
        rw [app_l (by omega), e2, app_r]
        obtain ⟨m, hm, hmk, _⟩ := (susTo_mem zs s k _).1 (getD_mem (zs := susTo zs s k) (k := i) (by omega))
        rw [hm]; omega
    · rw [susTo_no h] at hj ⊢
      exact ih i j hij hj
/-- one taker alone -/
def oneT (n i : Nat) (z : Int) : List Int := (List.replicate n 0).set i z
theorem oneT_len (n i : Nat) (z : Int) : (oneT n i z).length = n := by unfold oneT; rw [List.length_set, List.length_replicate]
theorem oneT_get {n i : Nat} (hi : i < n) (z : Int) (j : Nat) : (oneT n i z).getD j 0 = if j = i then z else 0 := by
  unfold oneT; rw [getD_setZ j z (by rw [List.length_replicate]; exact hi), repl_get]
theorem oneT_vk {ns : List Nd} (hv : vnB ns = true) {fl z : Int} (hf : 0 ≤ fl ∧ fl ≤ 500) {i : Nat} (hi : i < ns.length) (hz : 0 ≤ z ∧ z ≤ 500) : vkB ns fl (oneT ns.length i z) = true :=
  vk_yes (vm_yes hv (oneT_len _ _ _) (allB_yes fun j _ => by rw [oneT_get hi]; split <;> omega)) hf.1 hf.2
theorem zeroT_vk {ns : List Nd} (hv : vnB ns = true) {fl : Int} (hf : 0 ≤ fl ∧ fl ≤ 500) : vkB ns fl (List.replicate ns.length 0) = true :=
  vk_yes (vm_yes hv (by rw [List.length_replicate]) (allB_yes fun j _ => by rw [repl_get]; omega)) hf.1 hf.2
/-- who takes nothing changes nothing -/
theorem mea_nothing {ns : List Nd} (hv : vnB ns = true) {fl : Int} (hf : 0 ≤ fl ∧ fl ≤ 500) : meaF ns fl (List.replicate ns.length 0) = comeF ns fl := by
  have h0 : ∀ j, 0 ≤ (List.replicate ns.length (0 : Int)).getD j 0 := fun j => by rw [repl_get]; omega
  have : ∀ n j : Nat, j < n → j < ns.length → (meaF ns fl (List.replicate ns.length 0)).getD j 0 = (comeF ns fl).getD j 0 := by
    intro n
    induction n with
    | zero => intro j h; omega
    | succ n ih =>
      intro j hjn hj
      by_cases e : j = 0
      · subst e; rw [mea_root hv h0, come_spring hv]
      · obtain ⟨p, hp, hpj⟩ := vn_up hv hj (by omega)
        rw [mea_kid hv h0 fl hj hp, come_kid2 hv fl hj hp, ih p (by omega) (by omega), repl_get]
        have := unitsF_bd hv (k := p) (by omega) (come_bd hv hf p) j
        omega
  refine ext_z (by rw [meaF_len, comeF_len]) (fun j hj => ?_)
  rw [meaF_len] at hj
  exact this (j + 1) j (by omega) hj
/-- what is measured where one takes -/
theorem mea_before {ns : List Nd} (hv : vnB ns = true) {fl z : Int} (hf : 0 ≤ fl ∧ fl ≤ 500) {i : Nat} (hi : i < ns.length) (hz : 0 ≤ z) : ∀ n j : Nat, j < n → j < i → (meaF ns fl (oneT ns.length i z)).getD j 0 = (comeF ns fl).getD j 0 := by
  have h0 : ∀ j, 0 ≤ (oneT ns.length i z).getD j 0 := fun j => by rw [oneT_get hi]; split <;> omega
  intro n
  induction n with
  | zero => intro j h; omega
  | succ n ih =>
    intro j hjn hj
    by_cases e : j = 0
    · subst e; rw [mea_root hv h0, come_spring hv]
    · obtain ⟨p, hp, hpj⟩ := vn_up hv (j := j) (by omega) (by omega)
      rw [mea_kid hv h0 fl (by omega) hp, come_kid2 hv fl (by omega) hp, ih p (by omega) (by omega), oneT_get hi, if_neg (by omega)]
      have := unitsF_bd hv (k := p) (by omega) (come_bd hv hf p) j
      omega
theorem mea_one {ns : List Nd} (hv : vnB ns = true) {fl z : Int} (hf : 0 ≤ fl ∧ fl ≤ 500) {i : Nat} (hi : i < ns.length) (h0 : 0 < i) (hz : 0 ≤ z) : (meaF ns fl (oneT ns.length i z)).getD i 0 = (comeF ns fl).getD i 0 - min ((comeF ns fl).getD i 0) z := by
  have h00 : ∀ j, 0 ≤ (oneT ns.length i z).getD j 0 := fun j => by rw [oneT_get hi]; split <;> omega
  obtain ⟨p, hp, hpj⟩ := vn_up hv hi h0
  rw [mea_kid hv h00 fl hi hp, mea_before hv hf hi hz (p + 1) p (by omega) hpj, oneT_get hi, if_pos rfl, come_kid2 hv fl hi hp]
/-- the suspects where one takes -/
theorem sus_one {ns : List Nd} (hv : vnB ns = true) {fl z : Int} (hf : 0 ≤ fl ∧ fl ≤ 500) {i : Nat} (hi : i < ns.length) (hz : 0 ≤ z ∧ z ≤ 500) : susTo (misF ns (meaF ns fl (oneT ns.length i z))) 0 ns.length = [] ∨ (susTo (misF ns (meaF ns fl (oneT ns.length i z))) 0 ns.length = [(i : Int)] ∧ z ≠ 0) := by
  have hk := oneT_vk hv hf hi hz
  have hm : ∀ j, j < ns.length → j ≠ i → ¬ 0 < (misF ns (meaF ns fl (oneT ns.length i z))).getD j 0 := fun j hj hji => by
    rw [mis_taken hk hj]
    have := exp_bd2 (mea_all hk) j
    split
    · omega
    · rw [oneT_get hi, if_neg hji]; omega
  have hgo : ∀ k, k ≤ ns.length → susTo (misF ns (meaF ns fl (oneT ns.length i z))) 0 k = if i < k ∧ 0 < (misF ns (meaF ns fl (oneT ns.length i z))).getD i 0 then [(i : Int)] else [] := by
    intro k
    induction k with
    | zero => intro _; rw [if_neg (by omega)]; rfl
    | succ k ih =>
      intro hk
      by_cases e : k = i
      · subst e
        by_cases c : 0 < (misF ns (meaF ns fl (oneT ns.length k z))).getD k 0
        · rw [susTo_yes c, ih (by omega), if_neg (by omega), if_pos ⟨by omega, c⟩]; rfl
        · rw [susTo_no c, ih (by omega), if_neg (by omega), if_neg (fun q => c q.2)]
      · rw [susTo_no (hm k (by omega) e), ih (by omega)]
        by_cases c : i < k ∧ 0 < (misF ns (meaF ns fl (oneT ns.length i z))).getD i 0
        · rw [if_pos c, if_pos ⟨by omega, c.2⟩]
        · rw [if_neg c, if_neg (fun q => c ⟨by omega, q.2⟩)]
  rw [hgo ns.length (Nat.le_refl _)]
  by_cases c : i < ns.length ∧ 0 < (misF ns (meaF ns fl (oneT ns.length i z))).getD i 0
  · rw [if_pos c]
    refine Or.inr ⟨rfl, fun e => ?_⟩
    have c2 := c.2
    rw [mis_taken hk hi, oneT_get hi, if_pos rfl] at c2
    have := exp_bd2 (mea_all hk) i
    by_cases i0 : i = 0
    · rw [if_pos i0] at c2; omega
    · rw [if_neg i0] at c2; omega
  · rw [if_neg c]; exact Or.inl rfl
/-- what comes to the kids of a node by measures -/
theorem exp_kids {ns : List Nd} {ms : List Int} (hm : vmB ns ms = true) {k : Nat} (hk : k < ns.length) : atSum (expF ns ms) (kidsF ns (k : Int)) = if vwB (wts ns (k : Int)) = true then passV (ns.getD k nd0) (ms.getD k 0) else 0 := by
  obtain ⟨hv, hl, ha⟩ := vm_is hm
  have hg : ∀ c l : List Int, atSum c l = (l.map fun z => c.getD z.toNat 0).sum := fun c l => by
    induction l with
    | nil => rfl
    | cons h t ih => rw [List.map_cons, List.sum_cons, ← ih]; rfl
  have hget : ∀ i, i < (kidsF ns (k : Int)).length → ((kidsF ns (k : Int)).map fun z => (expF ns ms).getD z.toNat 0).getD i 0 = if vwB (wts ns (k : Int)) = true then (sa 2 (passV (ns.getD k nd0) (ms.getD k 0)) (wts ns (k : Int))).getD i 0 else 0 := fun i hi => by
    have e : (kidsF ns (k : Int)).getD i 0 = (kidsF ns (k : Int))[i] := by rw [List.getD_eq_getElem?_getD, List.getElem?_eq_getElem hi]; rfl
    obtain ⟨j, hj, hjl, hp⟩ := kid_at hi
    have hu := unitsF_kid (ns := ns) (ms.getD k 0) hi
    rw [hj, show ((j : Int)).toNat = j from by omega] at hu
    rw [List.getD_eq_getElem?_getD, List.getElem?_map, List.getElem?_eq_getElem hi]
    show (expF ns ms).getD ((kidsF ns (k : Int))[i]).toNat 0 = _
    rw [← e, hj, show ((j : Int)).toNat = j from by omega, exp_kid hv ms hjl hp, hu]
  rw [hg]
  by_cases hw : vwB (wts ns (k : Int)) = true
  · rw [if_pos hw]
    have hcs := csB_pass hv hk (allM_get ha k).1 hw
    rw [← (sa_facts hcs (step := 2) (by omega)).1]
    congr 1
    refine ext_z (by rw [List.length_map, sa_len]; unfold wts; rw [wk_len]) (fun i hi => ?_)
    rw [List.length_map] at hi
    rw [hget i hi, if_pos hw]
  · have e : ((kidsF ns (k : Int)).map fun z => (expF ns ms).getD z.toNat 0) = List.replicate (kidsF ns (k : Int)).length 0 := by
      refine ext_z (by rw [List.length_map, List.length_replicate]) (fun i hi => ?_)
      rw [List.length_map] at hi
      rw [hget i hi, if_neg hw, repl_get]
    rw [if_neg hw, e, sum_zeros]
theorem exp_kids_le {ns : List Nd} {ms : List Int} (hm : vmB ns ms = true) {k : Nat} (hk : k < ns.length) : 0 ≤ atSum (expF ns ms) (kidsF ns (k : Int)) ∧ atSum (expF ns ms) (kidsF ns (k : Int)) ≤ min (ns.getD k nd0).2.2.2.1 (max 0 (ms.getD k 0 - (ns.getD k nd0).2.2.1)) := by
  obtain ⟨hv, hl, ha⟩ := vm_is hm
  obtain ⟨_, b, d, _⟩ := vn_at hv hk
  have hc := allM_get ha k
  have p := pass_bd d.1 hc.1 b.1
  have q := pass_min d.1 hc.1 b.1
  rw [exp_kids hm hk]
  split <;> omega
/-- all water is found again: after k nodes -/
def fndT (ns : List Nd) (ms : List Int) (k : Nat) : Int := (misF ns ms).sum + sumTo ms k - gotT ns (expF ns ms) ns.length k
theorem fndT_succ (ns : List Nd) (ms : List Int) (k : Nat) : fndT ns ms (k + 1) = fndT ns ms k + ms.getD k 0 - atSum (expF ns ms) (kidsF ns (k : Int)) := by
  unfold fndT; rw [sumTo_succ, gotT_succ]
  show _ - (_ + atSum (expF ns ms) (kidsF ns (k : Int))) = _
  omega
theorem fndT_bd {ns : List Nd} {ms : List Int} (hm : vmB ns ms = true) (hq : ∀ z ∈ misF ns ms, -1000000 ≤ z ∧ z ≤ 1000000) : ∀ k, k ≤ ns.length → -20000000 ≤ fndT ns ms k ∧ fndT ns ms k ≤ 20000000 := by
  obtain ⟨hv, hl, ha⟩ := vm_is hm
  have l12 := (vn_is hv).2.1
  have s := sum_bd (misF ns ms) hq (misF ns ms).length (Nat.le_refl _)
  rw [List.take_length, misF_len] at s
  have : ∀ k, k ≤ ns.length → -12000000 - 500 * (k : Int) ≤ fndT ns ms k ∧ fndT ns ms k ≤ 12000000 + 500 * (k : Int) := by
    intro k
    induction k with
    | zero => intro _; show -12000000 - 500 * 0 ≤ (misF ns ms).sum + 0 - 0 ∧ (misF ns ms).sum + 0 - 0 ≤ _; omega
    | succ k ih =>
      intro hk
      have i := ih (by omega)
      have e := exp_kids_le hm (k := k) (by omega)
      have c := allM_get ha k
      obtain ⟨_, b, d, _⟩ := vn_at hv (k := k) (by omega)
      rw [fndT_succ]
      omega
  intro k hk
  have := this k hk
  omega
theorem sum_sumTo (zs : List Int) : ∀ k, k ≤ zs.length → (zs.take k).sum = sumTo zs k := by
  intro k
  induction k with
  | zero => intro _; simp [sumTo]
  | succ k ih => intro h; rw [take_sum zs k (by omega), ih (by omega), sumTo_succ]
theorem sumTo_sub {a b c : List Int} {n : Nat} (h : ∀ j, j < n → a.getD j 0 = b.getD j 0 - c.getD j 0) : sumTo a n = sumTo b n - sumTo c n := by
  have : ∀ k, k ≤ n → sumTo a k = sumTo b k - sumTo c k := by
    intro k
    induction k with
    | zero => intro _; rfl
    | succ k ih => intro hk; rw [sumTo_succ, sumTo_succ, sumTo_succ, ih (by omega), h k (by omega)]; omega
  exact this n (Nat.le_refl _)
theorem found_all {ns : List Nd} {ms : List Int} (hm : vmB ns ms = true) : fndT ns ms ns.length = ms.getD 0 0 := by
  obtain ⟨hv, hl, ha⟩ := vm_is hm
  have h1 := (vn_is hv).1
  have e := got_all hv (expF ns ms) (ns.length - 1) (by omega)
  rw [show ns.length - 1 + 1 = ns.length from by omega] at e
  have s := sum_sumTo (misF ns ms) ns.length (by rw [misF_len]; exact Nat.le_refl _)
  rw [List.take_of_length_le (by rw [misF_len]; exact Nat.le_refl _)] at s
  unfold fndT
  rw [e, s, sumTo_sub (fun j hj => misF_get hj), exp_root hv]
  omega
end Go.Proofs.Ytigapnbpgbfbhaa
