/- What goes from one node of a channel to its kids, and what is measured and expected at each node (pure). No condition but those stated. -/
import Derived.Test.YtigapnbpgbfbhaaFlowQ
import Derived.Test.YtigapnbpgbfbhaaMkZ
namespace Go.Proofs.Ytigapnbpgbfbhaa
set_option linter.unusedVariables false
set_option linter.unusedSimpArgs false

/-- what goes from a node to each other one directly -/
def unitsF (ns : List Nd) (k : Nat) (c : Int) : List Int := putTo (List.replicate ns.length 0) (kidsF ns (k : Int)) (giveV ns (k : Int) (passV (ns.getD k nd0) c)) (giveV ns (k : Int) (passV (ns.getD k nd0) c)).length
theorem unitsF_len (ns : List Nd) (k : Nat) (c : Int) : (unitsF ns k c).length = ns.length := by unfold unitsF; rw [putTo_len, List.length_replicate]
theorem unitsF_other {ns : List Nd} {k j : Nat} (c : Int) (h : (ns.getD j nd0).1 ≠ (k : Int)) : (unitsF ns k c).getD j 0 = 0 := by
  unfold unitsF
  rw [putTo_other _ (fun i hi e => ?_), repl_get]
  have hl := give_len ns (k : Int) (passV (ns.getD k nd0) c)
  obtain ⟨q, hq, _, hp⟩ := kid_at (ns := ns) (at_ := (k : Int)) (i := i) (by omega)
  rw [hq] at e
  have : q = j := by omega
  rw [this] at hp
  exact h hp
theorem unitsF_kid {ns : List Nd} {k i : Nat} (c : Int) (hi : i < (kidsF ns (k : Int)).length) :
    (unitsF ns k c).getD ((kidsF ns (k : Int)).getD i 0).toNat 0 = if vwB (wts ns (k : Int)) = true then (sa 2 (passV (ns.getD k nd0) c) (wts ns (k : Int))).getD i 0 else 0 := by
  unfold unitsF
  by_cases hw : vwB (wts ns (k : Int)) = true
  · have hg : giveV ns (k : Int) (passV (ns.getD k nd0) c) = sa 2 (passV (ns.getD k nd0) c) (wts ns (k : Int)) := if_pos hw
    have hlen : (sa 2 (passV (ns.getD k nd0) c) (wts ns (k : Int))).length = (kidsF ns (k : Int)).length := by rw [sa_len]; unfold wts; rw [wk_len]
    rw [if_pos hw, hg, hlen]
    exact putTo_at (kid_ne (ns := ns) (at_ := (k : Int))) (fun i hi => by obtain ⟨q, hq, hql, _⟩ := kid_at hi; rw [hq, List.length_replicate]; omega) (i := i) _ hi (Nat.le_refl _)
  · have hg : giveV ns (k : Int) (passV (ns.getD k nd0) c) = [] := if_neg hw
    rw [if_neg hw, hg]
    exact repl_get _ _
theorem unitsF_bd {ns : List Nd} (hv : vnB ns = true) {k : Nat} (hk : k < ns.length) {c : Int} (hc : 0 ≤ c ∧ c ≤ 500) (j : Nat) : 0 ≤ (unitsF ns k c).getD j 0 ∧ (unitsF ns k c).getD j 0 ≤ c := by
  by_cases hp : j < ns.length ∧ (ns.getD j nd0).1 = (k : Int)
  · obtain ⟨i, hi, he⟩ := kid_pos hp.2 hp.1
    have := unitsF_kid (ns := ns) c hi
    rw [he, show ((j : Int)).toNat = j from by omega] at this
    rw [this]
    split
    · rename_i hw
      have hcs := csB_pass hv hk hc.1 hw
      obtain ⟨_, _, hb⟩ := sa_facts hcs (step := 2) (by omega)
      have b1 := hb i (by unfold wts; rw [wk_len]; exact hi)
      obtain ⟨_, b, d, _⟩ := vn_at hv hk
      have b2 := pass_bd d.1 hc.1 b.1
      omega
    · omega
  · by_cases hj : j < ns.length
    · rw [unitsF_other c (fun e => hp ⟨hj, e⟩)]; omega
    · rw [List.getD_eq_getElem?_getD, List.getElem?_eq_none (by rw [unitsF_len]; omega)]
      exact ⟨Int.le_refl _, hc.1⟩
/-- steps that give something to kids alone -/
def gTo (ns : List Nd) (T : List Int) (g : List Int → Nat → Nat → Int) : Nat → List Int
  | 0 => T
  | k + 1 => mkZ ns.length fun j => (gTo ns T g k).getD j 0 + g (gTo ns T g k) k j
theorem gTo_succ (ns : List Nd) (T : List Int) (g : List Int → Nat → Nat → Int) (k : Nat) : gTo ns T g (k + 1) = mkZ ns.length fun j => (gTo ns T g k).getD j 0 + g (gTo ns T g k) k j := rfl
theorem gTo_len {ns : List Nd} {T : List Int} (g : List Int → Nat → Nat → Int) (h : T.length = ns.length) : ∀ k, (gTo ns T g k).length = ns.length
  | 0 => h
  | k + 1 => by rw [gTo_succ, mkZ_len]
def KidsOnly (ns : List Nd) (g : List Int → Nat → Nat → Int) : Prop := ∀ (cs : List Int) (k j : Nat), (ns.getD j nd0).1 ≠ (k : Int) → g cs k j = 0
theorem gTo_stay {ns : List Nd} {T : List Int} {g : List Int → Nat → Nat → Int} (hg : KidsOnly ns g) {k j : Nat} (hj : j < ns.length) (h : (ns.getD j nd0).1 ≠ (k : Int)) : (gTo ns T g (k + 1)).getD j 0 = (gTo ns T g k).getD j 0 := by
  rw [gTo_succ, mkZ_get _ hj, hg _ _ _ h, Int.add_zero]
theorem gTo_late {ns : List Nd} {T : List Int} {g : List Int → Nat → Nat → Int} (hg : KidsOnly ns g) {j : Nat} (hj : j < ns.length) : ∀ d k, (∀ m : Nat, k ≤ m → (ns.getD j nd0).1 ≠ (m : Int)) → (gTo ns T g (k + d)).getD j 0 = (gTo ns T g k).getD j 0 := by
  intro d
  induction d with
  | zero => intro k _; rfl
  | succ d ih =>
    intro k h
    show (gTo ns T g ((k + d) + 1)).getD j 0 = _
    rw [gTo_stay hg hj (h (k + d) (by omega)), ih k h]
theorem gTo_early {ns : List Nd} {T : List Int} {g : List Int → Nat → Nat → Int} (hg : KidsOnly ns g) {j : Nat} (hj : j < ns.length) : ∀ k, (∀ m : Nat, m < k → (ns.getD j nd0).1 ≠ (m : Int)) → (gTo ns T g k).getD j 0 = T.getD j 0 := by
  intro k
  induction k with
  | zero => intro _; rfl
  | succ k ih => intro h; rw [gTo_stay hg hj (h k (by omega)), ih (fun m hm => h m (by omega))]
def gF (ns : List Nd) (T : List Int) (g : List Int → Nat → Nat → Int) : List Int := gTo ns T g ns.length
theorem gF_own {ns : List Nd} (hv : vnB ns = true) {T : List Int} {g : List Int → Nat → Nat → Int} (hg : KidsOnly ns g) {j : Nat} (hj : j < ns.length) : (gF ns T g).getD j 0 = (gTo ns T g j).getD j 0 := by
  have b := vn_parI hv hj
  unfold gF
  rw [show ns.length = j + (ns.length - j) from by omega]
  exact gTo_late hg hj _ _ (fun m hm c => by omega)
theorem gF_root {ns : List Nd} (hv : vnB ns = true) {T : List Int} {g : List Int → Nat → Nat → Int} (hg : KidsOnly ns g) : (gF ns T g).getD 0 0 = T.getD 0 0 := by
  rw [gF_own hv hg (vn_is hv).1]; rfl
/-- a number that is not the spring's: what its parent gives -/
theorem gF_kid {ns : List Nd} (hv : vnB ns = true) {T : List Int} {g : List Int → Nat → Nat → Int} (hg : KidsOnly ns g) {j p : Nat} (hj : j < ns.length) (hp : (ns.getD j nd0).1 = (p : Int)) : (gF ns T g).getD j 0 = T.getD j 0 + g (gTo ns T g p) p j := by
  have b := vn_parI hv hj
  have e1 : (gF ns T g).getD j 0 = (gTo ns T g (p + 1)).getD j 0 := by
    unfold gF
    rw [show ns.length = (p + 1) + (ns.length - (p + 1)) from by omega]
    exact gTo_late hg hj _ _ (fun m hm c => by omega)
  rw [e1, gTo_succ, mkZ_get _ hj, gTo_early hg hj p (fun m hm c => by omega)]
/-- where it begins: the flow at the spring -/
def begT (n : Nat) (fl : Int) : List Int := (List.replicate n 0).set 0 fl
theorem begT_len (n : Nat) (fl : Int) : (begT n fl).length = n := by unfold begT; rw [List.length_set, List.length_replicate]
theorem begT_get {n : Nat} (fl : Int) (j : Nat) (hn : 0 < n) : (begT n fl).getD j 0 = if j = 0 then fl else 0 := by
  unfold begT
  rw [getD_setZ j fl (by rw [List.length_replicate]; exact hn), repl_get]
/-- an honest flow -/
def gC (ns : List Nd) (cs : List Int) (k j : Nat) : Int := (unitsF ns k (cs.getD k 0)).getD j 0
theorem gC_kids (ns : List Nd) : KidsOnly ns (gC ns) := fun cs k j h => unitsF_other _ h
theorem putTo_add {cs ks vs : List Int} {n : Nat} (hl : cs.length = n) (hz : ∀ i, i < ks.length → cs.getD (ks.getD i 0).toNat 0 = 0) (hd : ∀ i j, i < j → j < ks.length → (ks.getD i 0).toNat ≠ (ks.getD j 0).toNat) (hb : ∀ i, i < ks.length → (ks.getD i 0).toNat < n) (m : Nat) (hm : m ≤ ks.length) :
    putTo cs ks vs m = mkZ n fun j => cs.getD j 0 + (putTo (List.replicate n 0) ks vs m).getD j 0 := by
  refine ext_z (by rw [putTo_len, mkZ_len, hl]) (fun j hj => ?_)
  rw [putTo_len, hl] at hj
  rw [mkZ_get _ hj]
  by_cases e : ∃ i, i < m ∧ (ks.getD i 0).toNat = j
  · obtain ⟨i, hi, rfl⟩ := e
    rw [putTo_at hd (fun i hi => by rw [hl]; exact hb i hi) m hi hm, putTo_at hd (fun i hi => by rw [List.length_replicate]; exact hb i hi) m hi hm, hz i (by omega), Int.zero_add]
  · rw [putTo_other m (fun i hi c => e ⟨i, hi, c⟩), putTo_other m (fun i hi c => e ⟨i, hi, c⟩), repl_get, Int.add_zero]
theorem kids_lt (ns : List Nd) (k : Int) : ∀ i, i < (kidsF ns k).length → ((kidsF ns k).getD i 0).toNat < ns.length := fun i hi => by
  obtain ⟨q, hq, hql, _⟩ := kid_at hi; rw [hq]; omega
theorem come_g {ns : List Nd} (hv : vnB ns = true) (fl : Int) : ∀ k, k ≤ ns.length → comeTo ns fl k = gTo ns (begT ns.length fl) (gC ns) k := by
  intro k
  induction k with
  | zero => intro _; rfl
  | succ k ih =>
    intro hk
    rw [comeTo_succ, gTo_succ, ← ih (by omega)]
    unfold stepC
    rw [putTo_add (comeTo_len ns fl k) (fun i hi => ?_) kid_ne (kids_lt ns _) _ (give_len _ _ _)]
    · rfl
    · obtain ⟨j, hj, hjl, hp⟩ := kid_at hi
      have b := vn_parI hv hjl
      rw [hj, show ((j : Int)).toNat = j from by omega, comeTo_early k (fun m hm c => by omega), comeTo_zero ns fl j (by omega), if_neg (by omega)]
theorem comeF_g {ns : List Nd} (hv : vnB ns = true) (fl : Int) : comeF ns fl = gF ns (begT ns.length fl) (gC ns) := come_g hv fl _ (Nat.le_refl _)
/-- the flow of each step as a whole -/
theorem come_next {ns : List Nd} (hv : vnB ns = true) (fl : Int) {k : Nat} (hk : k < ns.length) : comeTo ns fl (k + 1) = mkZ ns.length fun j => (comeTo ns fl k).getD j 0 + (unitsF ns k ((comeTo ns fl k).getD k 0)).getD j 0 := by
  rw [come_g hv fl (k + 1) (by omega), gTo_succ, ← come_g hv fl k (by omega)]; rfl
/-- what is expected by measures -/
def gE (ns : List Nd) (ms : List Int) (_ : List Int) (k j : Nat) : Int := (unitsF ns k (ms.getD k 0)).getD j 0
theorem gE_kids (ns : List Nd) (ms : List Int) : KidsOnly ns (gE ns ms) := fun cs k j h => unitsF_other _ h
def expTo (ns : List Nd) (ms : List Int) : Nat → List Int := gTo ns (begT ns.length (ms.getD 0 0)) (gE ns ms)
def expF (ns : List Nd) (ms : List Int) : List Int := expTo ns ms ns.length
theorem expTo_len (ns : List Nd) (ms : List Int) (k : Nat) : (expTo ns ms k).length = ns.length := gTo_len _ (begT_len _ _) k
theorem expTo_zero (ns : List Nd) (ms : List Int) : expTo ns ms 0 = begT ns.length (ms.getD 0 0) := rfl
theorem expTo_succ (ns : List Nd) (ms : List Int) (k : Nat) : expTo ns ms (k + 1) = mkZ ns.length fun j => (expTo ns ms k).getD j 0 + (unitsF ns k (ms.getD k 0)).getD j 0 := rfl
theorem expF_len (ns : List Nd) (ms : List Int) : (expF ns ms).length = ns.length := expTo_len ns ms _
/-- what is measured if some is taken -/
def gM (ns : List Nd) (ts : List Int) (cs : List Int) (k j : Nat) : Int := (unitsF ns k (cs.getD k 0)).getD j 0 - min ((unitsF ns k (cs.getD k 0)).getD j 0) (ts.getD j 0)
theorem gM_kids {ns : List Nd} {ts : List Int} (ht : ∀ j, 0 ≤ ts.getD j 0) : KidsOnly ns (gM ns ts) := fun cs k j h => by
  unfold gM; rw [unitsF_other _ h]; have := ht j; omega
def meaTo (ns : List Nd) (fl : Int) (ts : List Int) : Nat → List Int := gTo ns (begT ns.length fl) (gM ns ts)
def meaF (ns : List Nd) (fl : Int) (ts : List Int) : List Int := meaTo ns fl ts ns.length
theorem meaTo_len (ns : List Nd) (fl : Int) (ts : List Int) (k : Nat) : (meaTo ns fl ts k).length = ns.length := gTo_len _ (begT_len _ _) k
theorem meaTo_zero (ns : List Nd) (fl : Int) (ts : List Int) : meaTo ns fl ts 0 = begT ns.length fl := rfl
theorem meaTo_succ (ns : List Nd) (fl : Int) (ts : List Int) (k : Nat) : meaTo ns fl ts (k + 1) = mkZ ns.length fun j => (meaTo ns fl ts k).getD j 0 + (unitsF ns k ((meaTo ns fl ts k).getD k 0)).getD j 0 - min ((unitsF ns k ((meaTo ns fl ts k).getD k 0)).getD j 0) (ts.getD j 0) := by
  show gTo _ _ _ (k + 1) = _
  rw [gTo_succ]
  exact mkZ_ext (fun i _ => (Int.add_sub_assoc _ _ _).symm)
theorem meaF_len (ns : List Nd) (fl : Int) (ts : List Int) : (meaF ns fl ts).length = ns.length := meaTo_len ns fl ts _
/-- a row of units for the nodes -/
def vmB (ns : List Nd) (ms : List Int) : Bool := vnB ns && (decide (ms.length = ns.length) && allB ms 500)
theorem vm_is {ns : List Nd} {ms : List Int} (h : vmB ns ms = true) : vnB ns = true ∧ ms.length = ns.length ∧ allB ms 500 = true := by
  unfold vmB at h; simp only [Bool.and_eq_true, decide_eq_true_eq] at h; exact h
theorem vm_yes {ns : List Nd} {ms : List Int} (h1 : vnB ns = true) (h2 : ms.length = ns.length) (h3 : allB ms 500 = true) : vmB ns ms = true := by
  unfold vmB; rw [h1, h3, decide_eq_true h2]; rfl
theorem allM_get {ms : List Int} (h : allB ms 500 = true) (j : Nat) : 0 ≤ ms.getD j 0 ∧ ms.getD j 0 ≤ 500 := by
  by_cases hj : j < ms.length
  · exact (allB_iff _ _).1 h _ (getD_mem hj)
  · rw [List.getD_eq_getElem?_getD, List.getElem?_eq_none (by omega)]
    exact ⟨Int.le_refl _, by show (0 : Int) ≤ 500; omega⟩
theorem gTo_bd {ns : List Nd} (hv : vnB ns = true) {T : List Int} {g : List Int → Nat → Nat → Int} (hg : KidsOnly ns g) (h0 : ∀ j, 0 ≤ T.getD j 0 ∧ T.getD j 0 ≤ 500) (hz : ∀ j, 0 < j → T.getD j 0 = 0) (hl : T.length = ns.length) (hb : ∀ cs k j, k < ns.length → (∀ i, 0 ≤ cs.getD i 0 ∧ cs.getD i 0 ≤ 500) → 0 ≤ g cs k j ∧ g cs k j ≤ 500) :
    ∀ k, k ≤ ns.length → ∀ j, 0 ≤ (gTo ns T g k).getD j 0 ∧ (gTo ns T g k).getD j 0 ≤ 500 := by
  intro k
  induction k with
  | zero => intro _ j; exact h0 j
  | succ k ih =>
    intro hk j
    have ih := ih (by omega)
    by_cases hj : j < ns.length
    · by_cases hp : (ns.getD j nd0).1 = (k : Int)
      · have b := vn_parI hv hj
        rw [gTo_succ, mkZ_get _ hj, gTo_early hg hj k (fun m hm c => by omega), hz j (by omega)]
        have := hb (gTo ns T g k) k j (by omega) ih
        omega
      · rw [gTo_stay hg hj hp]; exact ih j
    · rw [List.getD_eq_getElem?_getD, List.getElem?_eq_none (by rw [gTo_len g hl]; omega)]
      exact ⟨Int.le_refl _, by show (0 : Int) ≤ 500; omega⟩
theorem begT_bd {n : Nat} {fl : Int} (hn : 0 < n) (hf : 0 ≤ fl ∧ fl ≤ 500) (j : Nat) : 0 ≤ (begT n fl).getD j 0 ∧ (begT n fl).getD j 0 ≤ 500 := by
  rw [begT_get fl j hn]; split <;> omega
theorem mea_bd {ns : List Nd} (hv : vnB ns = true) {fl : Int} {ts : List Int} (hf : 0 ≤ fl ∧ fl ≤ 500) (ht : ∀ j, 0 ≤ ts.getD j 0) : ∀ k, k ≤ ns.length → ∀ j, 0 ≤ (meaTo ns fl ts k).getD j 0 ∧ (meaTo ns fl ts k).getD j 0 ≤ 500 :=
  gTo_bd hv (gM_kids ht) (begT_bd (vn_is hv).1 hf) (fun j hj => by rw [begT_get fl j (vn_is hv).1, if_neg (by omega)]) (begT_len _ _) (fun cs k j hk hc => by
    have := unitsF_bd hv hk (hc k) j
    have := hc k; have := ht j
    unfold gM; omega)
theorem exp_bd {ns : List Nd} {ms : List Int} (hm : vmB ns ms = true) : ∀ k, k ≤ ns.length → ∀ j, 0 ≤ (expTo ns ms k).getD j 0 ∧ (expTo ns ms k).getD j 0 ≤ 500 := by
  obtain ⟨hv, hl, ha⟩ := vm_is hm
  refine gTo_bd hv (gE_kids ns ms) (begT_bd (vn_is hv).1 (allM_get ha 0)) (fun j hj => by rw [begT_get _ j (vn_is hv).1, if_neg (by omega)]) (begT_len _ _) (fun cs k j hk hc => ?_)
  have := unitsF_bd hv hk (allM_get ha k) j
  have := allM_get ha k
  unfold gE; omega
/-- the values -/
theorem exp_root {ns : List Nd} (hv : vnB ns = true) (ms : List Int) : (expF ns ms).getD 0 0 = ms.getD 0 0 := by
  show (gF ns _ _).getD 0 0 = _
  rw [gF_root hv (gE_kids ns ms), begT_get _ 0 (vn_is hv).1]; rfl
theorem exp_kid {ns : List Nd} (hv : vnB ns = true) (ms : List Int) {j p : Nat} (hj : j < ns.length) (hp : (ns.getD j nd0).1 = (p : Int)) : (expF ns ms).getD j 0 = (unitsF ns p (ms.getD p 0)).getD j 0 := by
  have b := vn_parI hv hj
  show (gF ns _ _).getD j 0 = _
  rw [gF_kid hv (gE_kids ns ms) hj hp, begT_get _ j (vn_is hv).1, if_neg (by omega), Int.zero_add]; rfl
theorem mea_root {ns : List Nd} (hv : vnB ns = true) {ts : List Int} (ht : ∀ j, 0 ≤ ts.getD j 0) (fl : Int) : (meaF ns fl ts).getD 0 0 = fl := by
  show (gF ns _ _).getD 0 0 = _
  rw [gF_root hv (gM_kids ht), begT_get _ 0 (vn_is hv).1]; rfl
theorem mea_kid {ns : List Nd} (hv : vnB ns = true) {ts : List Int} (ht : ∀ j, 0 ≤ ts.getD j 0) (fl : Int) {j p : Nat} (hj : j < ns.length) (hp : (ns.getD j nd0).1 = (p : Int)) :
    (meaF ns fl ts).getD j 0 = (unitsF ns p ((meaF ns fl ts).getD p 0)).getD j 0 - min ((unitsF ns p ((meaF ns fl ts).getD p 0)).getD j 0) (ts.getD j 0) := by
  have b := vn_parI hv hj
  have e : (meaF ns fl ts).getD p 0 = (meaTo ns fl ts p).getD p 0 := gF_own hv (gM_kids ht) (by omega)
  rw [e]
  show (gF ns _ _).getD j 0 = _
  rw [gF_kid hv (gM_kids ht) hj hp, begT_get _ j (vn_is hv).1, if_neg (by omega), Int.zero_add]; rfl
theorem come_kid2 {ns : List Nd} (hv : vnB ns = true) (fl : Int) {j p : Nat} (hj : j < ns.length) (hp : (ns.getD j nd0).1 = (p : Int)) : (comeF ns fl).getD j 0 = (unitsF ns p ((comeF ns fl).getD p 0)).getD j 0 := by
  have b := vn_parI hv hj
  rw [comeF_g hv]
  have e : (gF ns (begT ns.length fl) (gC ns)).getD p 0 = (gTo ns (begT ns.length fl) (gC ns) p).getD p 0 := gF_own hv (gC_kids ns) (by omega)
  rw [e, gF_kid hv (gC_kids ns) hj hp, begT_get _ j (vn_is hv).1, if_neg (by omega), Int.zero_add]; rfl
def expV (ns : List Nd) (ms : List Int) : List Int := if vmB ns ms = true then expF ns ms else []
theorem expV_no {ns : List Nd} {ms : List Int} (h : vmB ns ms = false) : expV ns ms = [] := by unfold expV; rw [h]; rfl
theorem expV_yes {ns : List Nd} {ms : List Int} (h : vmB ns ms = true) : expV ns ms = expF ns ms := by unfold expV; rw [h]; rfl
def misF (ns : List Nd) (ms : List Int) : List Int := mkZ ns.length fun j => (expF ns ms).getD j 0 - ms.getD j 0
def misV (ns : List Nd) (ms : List Int) : List Int := if vmB ns ms = true then misF ns ms else []
theorem misV_no {ns : List Nd} {ms : List Int} (h : vmB ns ms = false) : misV ns ms = [] := by unfold misV; rw [h]; rfl
theorem misV_yes {ns : List Nd} {ms : List Int} (h : vmB ns ms = true) : misV ns ms = misF ns ms := by unfold misV; rw [h]; rfl
theorem misF_len (ns : List Nd) (ms : List Int) : (misF ns ms).length = ns.length := by unfold misF; rw [mkZ_len]
theorem misF_get {ns : List Nd} {ms : List Int} {j : Nat} (h : j < ns.length) : (misF ns ms).getD j 0 = (expF ns ms).getD j 0 - ms.getD j 0 := by unfold misF; rw [mkZ_get _ h]
theorem misF_bd {ns : List Nd} {ms : List Int} (h : vmB ns ms = true) (j : Nat) : -500 ≤ (misF ns ms).getD j 0 ∧ (misF ns ms).getD j 0 ≤ 500 := by
  by_cases hj : j < ns.length
  · rw [misF_get hj]
    have a : 0 ≤ (expF ns ms).getD j 0 ∧ (expF ns ms).getD j 0 ≤ 500 := exp_bd h ns.length (Nat.le_refl _) j
    have b := allM_get (vm_is h).2.2 j
    omega
  · unfold misF; rw [mkZ_out _ hj]; omega
/-- the suspects -/
def susTo (zs : List Int) (s : Int) : Nat → List Int
  | 0 => []
  | k + 1 => if s < zs.getD k 0 then susTo zs s k ++ [(k : Int)] else susTo zs s k
theorem susTo_yes {zs : List Int} {s : Int} {k : Nat} (h : s < zs.getD k 0) : susTo zs s (k + 1) = susTo zs s k ++ [(k : Int)] := if_pos h
theorem susTo_no {zs : List Int} {s : Int} {k : Nat} (h : ¬ s < zs.getD k 0) : susTo zs s (k + 1) = susTo zs s k := if_neg h
theorem susTo_len (zs : List Int) (s : Int) : ∀ k, (susTo zs s k).length ≤ k
  | 0 => Nat.le_refl _
  | k + 1 => by
    have := susTo_len zs s k
    by_cases h : s < zs.getD k 0
    · rw [susTo_yes h, List.length_append]; show _ + 1 ≤ _; omega
    · rw [susTo_no h]; omega
theorem susTo_mem (zs : List Int) (s : Int) : ∀ k, ∀ z, z ∈ susTo zs s k ↔ ∃ j : Nat, z = (j : Int) ∧ j < k ∧ s < zs.getD j 0 := by
  intro k
  induction k with
  | zero => intro z; constructor; (intro h; cases h); (rintro ⟨j, _, h, _⟩; omega)
  | succ k ih =>
    intro z
    by_cases h : s < zs.getD k 0
    · rw [susTo_yes h, List.mem_append, ih z, List.mem_singleton]
      constructor
      · rintro (⟨j, a, b, c⟩ | rfl)
        · exact ⟨j, a, by omega, c⟩
        · exact ⟨k, rfl, by omega, h⟩
      · rintro ⟨j, a, b, c⟩
        by_cases e : j = k
        · subst e; exact Or.inr a
        · exact Or.inl ⟨j, a, by omega, c⟩
    · rw [susTo_no h, ih z]
      constructor
      · rintro ⟨j, a, b, c⟩; exact ⟨j, a, by omega, c⟩
      · rintro ⟨j, a, b, c⟩
        refine ⟨j, a, ?_, c⟩
        have : j ≠ k := fun e => h (by rw [← e]; exact c)
        omega
def vsB (ns : List Nd) (ms : List Int) (s : Int) : Bool := vmB ns ms && (decide (0 ≤ s) && decide (s ≤ 500))
theorem vs_is {ns : List Nd} {ms : List Int} {s : Int} (h : vsB ns ms s = true) : vmB ns ms = true ∧ 0 ≤ s ∧ s ≤ 500 := by
  unfold vsB at h; simp only [Bool.and_eq_true, decide_eq_true_eq] at h; exact h
theorem vs_yes {ns : List Nd} {ms : List Int} {s : Int} (h : vmB ns ms = true) (h0 : 0 ≤ s) (h1 : s ≤ 500) : vsB ns ms s = true := by
  unfold vsB; rw [h, decide_eq_true h0, decide_eq_true h1]; rfl
def susV (ns : List Nd) (ms : List Int) (s : Int) : List Int := if vsB ns ms s = true then susTo (misF ns ms) s ns.length else []
theorem susV_no {ns : List Nd} {ms : List Int} {s : Int} (h : vsB ns ms s = false) : susV ns ms s = [] := by unfold susV; rw [h]; rfl
theorem susV_yes {ns : List Nd} {ms : List Int} {s : Int} (h : vsB ns ms s = true) : susV ns ms s = susTo (misF ns ms) s ns.length := by unfold susV; rw [h]; rfl
def vkB (ns : List Nd) (fl : Int) (ts : List Int) : Bool := vmB ns ts && (decide (0 ≤ fl) && decide (fl ≤ 500))
theorem vk_is {ns : List Nd} {fl : Int} {ts : List Int} (h : vkB ns fl ts = true) : vmB ns ts = true ∧ 0 ≤ fl ∧ fl ≤ 500 := by
  unfold vkB at h; simp only [Bool.and_eq_true, decide_eq_true_eq] at h; exact h
theorem vk_yes {ns : List Nd} {fl : Int} {ts : List Int} (h : vmB ns ts = true) (h0 : 0 ≤ fl) (h1 : fl ≤ 500) : vkB ns fl ts = true := by
  unfold vkB; rw [h, decide_eq_true h0, decide_eq_true h1]; rfl
def meaV (ns : List Nd) (fl : Int) (ts : List Int) : List Int := if vkB ns fl ts = true then meaF ns fl ts else []
theorem meaV_no {ns : List Nd} {fl : Int} {ts : List Int} (h : vkB ns fl ts = false) : meaV ns fl ts = [] := by unfold meaV; rw [h]; rfl
theorem meaV_yes {ns : List Nd} {fl : Int} {ts : List Int} (h : vkB ns fl ts = true) : meaV ns fl ts = meaF ns fl ts := by unfold meaV; rw [h]; rfl
end Go.Proofs.Ytigapnbpgbfbhaa
