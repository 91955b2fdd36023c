/- Water that runs down a channel (pure): more water, what is lost, least flows, what arrives. No condition but those stated. -/
import Derived.Test.YtigapnbpgbfbhaaFlowP
namespace Go.Proofs.Ytigapnbpgbfbhaa
set_option linter.unusedVariables false

/-- one unit more at the spring -/
theorem come_more {ns : List Nd} (hv : vnB ns = true) {fl : Int} (h0 : 0 ≤ fl) (h1 : fl + 1 ≤ 500) : ∀ j : Nat, j < ns.length → (comeF ns (fl + 1)).getD j 0 = (comeF ns fl).getD j 0 ∨ (comeF ns (fl + 1)).getD j 0 = (comeF ns fl).getD j 0 + 1 := by
  intro j
  induction j using Nat.strongRecOn with
  | ind j ih =>
    intro hj
    by_cases hz : j = 0
    · subst hz; rw [come_spring hv, come_spring hv]; exact .inr rfl
    · obtain ⟨p0, p1⟩ := vn_par hv hj (by omega)
      obtain ⟨k, hk⟩ : ∃ k : Nat, (ns.getD j nd0).1 = (k : Int) := ⟨(ns.getD j nd0).1.toNat, by omega⟩
      obtain ⟨i, hi, he⟩ := kid_pos hk hj
      have hkn : k < ns.length := by omega
      have a := come_kid hv (fl := fl) ⟨h0, by omega⟩ hkn hi
      have b := come_kid hv (fl := fl + 1) ⟨by omega, h1⟩ hkn hi
      rw [he, show ((j : Int)).toNat = j from by omega] at a b
      rw [a, b]
      by_cases hw : vwB (wts ns (k : Int)) = true
      · rw [if_pos hw, if_pos hw]
        obtain ⟨_, q2, q3, _⟩ := vn_at hv hkn
        have hc := come_bd hv (fl := fl) ⟨h0, by omega⟩ k
        have hcs := csB_pass hv hkn hc.1 hw
        have hpp : passV (ns.getD k nd0) ((comeF ns (fl + 1)).getD k 0) = passV (ns.getD k nd0) ((comeF ns fl).getD k 0) ∨ passV (ns.getD k nd0) ((comeF ns (fl + 1)).getD k 0) = passV (ns.getD k nd0) ((comeF ns fl).getD k 0) + 1 := by
          rcases ih k (by omega) hkn with e | e <;> rw [e]
          · exact .inl rfl
          · exact pass_more q3.1 q2.1
        rcases hpp with e | e <;> rw [e]
        · exact .inl rfl
        · obtain ⟨m, hm, hs⟩ := sa_more hcs (step := 2) (by omega)
          rw [hs, getD_setZ i _ (by rw [sa_len]; exact hm)]
          by_cases c : i = m
          · subst c; rw [if_pos rfl]; exact .inr rfl
          · rw [if_neg c]; exact .inl rfl
      · rw [if_neg hw, if_neg hw]; exact .inl rfl
theorem passF_more {ns : List Nd} (hv : vnB ns = true) {fl : Int} (h0 : 0 ≤ fl) (h1 : fl + 1 ≤ 500) {j : Nat} (hj : j < ns.length) : (passF ns (fl + 1)).getD j 0 = (passF ns fl).getD j 0 ∨ (passF ns (fl + 1)).getD j 0 = (passF ns fl).getD j 0 + 1 := by
  rw [passF_get _ _ hj, passF_get _ _ hj]
  obtain ⟨_, q2, q3, _⟩ := vn_at hv hj
  rcases come_more hv h0 h1 j hj with e | e <;> rw [e]
  · exact .inl rfl
  · exact pass_more q3.1 q2.1
theorem passF_mono {ns : List Nd} (hv : vnB ns = true) {fl : Int} (h0 : 0 ≤ fl) {j : Nat} (hj : j < ns.length) : ∀ d : Nat, fl + (d : Int) ≤ 500 → (passF ns fl).getD j 0 ≤ (passF ns (fl + (d : Int))).getD j 0 := by
  intro d
  induction d with
  | zero => intro _; rw [show fl + ((0 : Nat) : Int) = fl from by omega]; exact Int.le_refl _
  | succ d ih =>
    intro h
    have a := ih (by omega)
    have b := passF_more hv (fl := fl + (d : Int)) (by omega) (by omega) hj
    rw [show fl + ((d + 1 : Nat) : Int) = fl + (d : Int) + 1 from by omega]
    omega
theorem passF_le {ns : List Nd} (hv : vnB ns = true) {x y : Int} (h0 : 0 ≤ x) (hxy : x ≤ y) (hy : y ≤ 500) {j : Nat} (hj : j < ns.length) : (passF ns x).getD j 0 ≤ (passF ns y).getD j 0 := by
  have := passF_mono hv h0 hj (y - x).toNat (by omega)
  rw [show x + (((y - x).toNat : Nat) : Int) = y from by omega] at this
  exact this
/-- what comes to the kids of a node -/
def gotL (ns : List Nd) (fl : Int) (k : Int) : List Int := (kidsF ns k).map fun z => (comeF ns fl).getD z.toNat 0
theorem gotL_len (ns : List Nd) (fl : Int) (k : Int) : (gotL ns fl k).length = (kidsF ns k).length := by unfold gotL; rw [List.length_map]
theorem gotL_get (ns : List Nd) (fl : Int) (k : Int) {i : Nat} (h : i < (kidsF ns k).length) : (gotL ns fl k).getD i 0 = (comeF ns fl).getD ((kidsF ns k).getD i 0).toNat 0 := by
  have e : (kidsF ns k).getD i 0 = (kidsF ns k)[i] := by rw [List.getD_eq_getElem?_getD, List.getElem?_eq_getElem h]; rfl
  unfold gotL
  rw [e, List.getD_eq_getElem?_getD, List.getElem?_map, List.getElem?_eq_getElem h]; rfl
theorem sum_zeros : ∀ n : Nat, (List.replicate n (0 : Int)).sum = 0 := by
  intro n
  induction n with
  | zero => rfl
  | succ n ih => rw [List.replicate_succ, List.sum_cons, ih]; rfl
theorem got_sum {ns : List Nd} (hv : vnB ns = true) {fl : Int} (hf : 0 ≤ fl ∧ fl ≤ 500) {k : Nat} (hk : k < ns.length) : (gotL ns fl (k : Int)).sum = if vwB (wts ns (k : Int)) = true then (passF ns fl).getD k 0 else 0 := by
  by_cases hw : vwB (wts ns (k : Int)) = true
  · rw [if_pos hw]
    have hcs := csB_pass hv hk (come_bd hv hf k).1 hw
    have e : gotL ns fl (k : Int) = sa 2 (passV (ns.getD k nd0) ((comeF ns fl).getD k 0)) (wts ns (k : Int)) := by
      refine ext_z (by rw [gotL_len, sa_len]; unfold wts; rw [wk_len]) (fun i hi => ?_)
      rw [gotL_len] at hi
      rw [gotL_get ns fl _ hi, come_kid hv hf hk hi, if_pos hw]
    rw [e, (sa_facts hcs (step := 2) (by omega)).1, passF_get ns fl hk]
  · rw [if_neg hw]
    have e : gotL ns fl (k : Int) = List.replicate (kidsF ns (k : Int)).length 0 := by
      refine ext_z (by rw [gotL_len, List.length_replicate]) (fun i hi => ?_)
      rw [gotL_len] at hi
      rw [gotL_get ns fl _ hi, come_kid hv hf hk hi, if_neg hw, List.getD_eq_getElem?_getD, List.getElem?_replicate, if_pos hi]; rfl
    rw [e, sum_zeros]
/-- a node with kids, whose gates are all shut -/
def shB (ns : List Nd) (k : Int) : Bool := decide (0 < (kidsF ns k).length) && ((wts ns k).sum == 0)
/-- what is lost at a node -/
def lossAt (ns : List Nd) (fl : Int) (i : Nat) : Int := (comeF ns fl).getD i 0 - (passF ns fl).getD i 0 + if shB ns (i : Int) = true then (passF ns fl).getD i 0 else 0
def lostTo (ns : List Nd) (fl : Int) : Nat → Int
  | 0 => 0
  | k + 1 => lostTo ns fl k + lossAt ns fl k
theorem lostTo_succ (ns : List Nd) (fl : Int) (k : Nat) : lostTo ns fl (k + 1) = lostTo ns fl k + lossAt ns fl k := rfl
theorem loss_bd {ns : List Nd} (hv : vnB ns = true) {fl : Int} (hf : 0 ≤ fl ∧ fl ≤ 500) {i : Nat} (hi : i < ns.length) : 0 ≤ lossAt ns fl i ∧ lossAt ns fl i ≤ 500 := by
  have a := come_bd hv hf i
  have b := passF_bd hv hf hi
  unfold lossAt; split <;> omega
theorem lost_bd {ns : List Nd} (hv : vnB ns = true) {fl : Int} (hf : 0 ≤ fl ∧ fl ≤ 500) : ∀ k, k ≤ ns.length → 0 ≤ lostTo ns fl k ∧ lostTo ns fl k ≤ 500 * (k : Int) := by
  intro k
  induction k with
  | zero => intro _; exact ⟨Int.le_refl _, by show (0 : Int) ≤ 500 * ((0 : Nat) : Int); omega⟩
  | succ k ih =>
    intro hk
    have a := ih (by omega)
    have b := loss_bd hv hf (i := k) (by omega)
    rw [lostTo_succ]; omega
/-- what is lost at a node, as the model reckons it -/
theorem loss_got {ns : List Nd} (hv : vnB ns = true) {fl : Int} (hf : 0 ≤ fl ∧ fl ≤ 500) {k : Nat} (hk : k < ns.length) : lossAt ns fl k = (comeF ns fl).getD k 0 - (if (kidsF ns (k : Int)).length = 0 then (passF ns fl).getD k 0 else (gotL ns fl (k : Int)).sum) := by
  unfold lossAt shB
  rw [wts_zero hv]
  by_cases hz : (kidsF ns (k : Int)).length = 0
  · rw [if_pos hz, decide_eq_false (by omega)]
    show _ + (if (false && _) = true then _ else _) = _
    rw [Bool.false_and, if_neg (by simp)]; omega
  · rw [if_neg hz, decide_eq_true (by omega), got_sum hv hf hk]
    by_cases hw : vwB (wts ns (k : Int)) = true
    · rw [if_pos hw, hw]; show _ + (if (true && false) = true then _ else _) = _; rw [if_neg (by simp)]; omega
    · have : vwB (wts ns (k : Int)) = false := by simpa using hw
      rw [if_neg hw, this]; show _ + (if (true && true) = true then _ else _) = _; rw [if_pos (by simp)]; omega
def lostV (ns : List Nd) (fl : Int) : Int := if flB ns fl = true then lostTo ns fl ns.length else -1
theorem lost_no {ns : List Nd} {fl : Int} (h : flB ns fl = false) : lostV ns fl = -1 := by unfold lostV; rw [h]; rfl
theorem lost_yes {ns : List Nd} {fl : Int} (h : flB ns fl = true) : lostV ns fl = lostTo ns fl ns.length := by unfold lostV; rw [h]; rfl
/-- the least flow -/
def needF (ns : List Nd) (k : Nat) (am : Int) : Nat → Nat → Int
  | 0, _ => -1
  | m + 1, x => if am ≤ (passF ns (x : Int)).getD k 0 then (x : Int) else needF ns k am m (x + 1)
theorem need_at {ns : List Nd} {k : Nat} {am : Int} : ∀ (m x y : Nat), x ≤ y → y < x + m → (∀ j : Nat, x ≤ j → j < y → (passF ns (j : Int)).getD k 0 < am) → am ≤ (passF ns (y : Int)).getD k 0 → needF ns k am m x = (y : Int) := by
  intro m
  induction m with
  | zero => intro x y h1 h2 _ _; omega
  | succ m ih =>
    intro x y h1 h2 hb ha
    show (if am ≤ (passF ns (x : Int)).getD k 0 then (x : Int) else needF ns k am m (x + 1)) = _
    by_cases e : x = y
    · subst e; rw [if_pos ha]
    · have := hb x (Nat.le_refl _) (by omega)
      rw [if_neg (by omega)]
      exact ih (x + 1) y (by omega) (by omega) (fun j h3 h4 => hb j (by omega) h4) ha
theorem need_none {ns : List Nd} {k : Nat} {am : Int} : ∀ (m x : Nat), (∀ j : Nat, x ≤ j → j < x + m → (passF ns (j : Int)).getD k 0 < am) → needF ns k am m x = -1 := by
  intro m
  induction m with
  | zero => intro x _; rfl
  | succ m ih =>
    intro x hb
    show (if am ≤ (passF ns (x : Int)).getD k 0 then (x : Int) else needF ns k am m (x + 1)) = _
    have := hb x (Nat.le_refl _) (by omega)
    rw [if_neg (by omega)]
    exact ih (x + 1) (fun j h3 h4 => hb j (by omega) (by omega))
def needV (ns : List Nd) (at_ am : Int) : Int := if (vnB ns && inN ns.length at_) = true then needF ns at_.toNat am 501 0 else -1
theorem need_no {ns : List Nd} {at_ am : Int} (h : vnB ns = false ∨ inN ns.length at_ = false) : needV ns at_ am = -1 := by
  unfold needV; rw [if_neg]; rcases h with h | h <;> rw [h] <;> simp
theorem need_yes {ns : List Nd} {k : Nat} {am : Int} (h : vnB ns = true) (h2 : k < ns.length) : needV ns (k : Int) am = needF ns k am 501 0 := by
  unfold needV; rw [h, inN_is h2]; rfl
/-- what arrives -/
def avB (ns : List Nd) (at_ : Int) (fs : List Int) : Bool := (vnB ns && inN ns.length at_) && (decide (fs.length ≤ 200) && allB fs 500)
def arrAt (ns : List Nd) (k : Nat) (fs : List Int) (i : Nat) : Int := if (i : Int) < delayF ns (k : Int) then 0 else (passF ns (fs.getD (i - (delayF ns (k : Int)).toNat) 0)).getD k 0
def arrF (ns : List Nd) (k : Nat) (fs : List Int) : List Int := (List.range fs.length).map (arrAt ns k fs)
theorem arrF_len (ns : List Nd) (k : Nat) (fs : List Int) : (arrF ns k fs).length = fs.length := by unfold arrF; simp
theorem arrF_get (ns : List Nd) (k : Nat) (fs : List Int) {i : Nat} (h : i < fs.length) : (arrF ns k fs).getD i 0 = arrAt ns k fs i := by
  unfold arrF
  rw [List.getD_eq_getElem?_getD, List.getElem?_map, List.getElem?_range h]; rfl
def arriveV (ns : List Nd) (at_ : Int) (fs : List Int) : List Int := if avB ns at_ fs = true then arrF ns at_.toNat fs else []
theorem arrive_no {ns : List Nd} {at_ : Int} {fs : List Int} (h : avB ns at_ fs = false) : arriveV ns at_ fs = [] := by unfold arriveV; rw [h]; rfl
theorem arrive_yes {ns : List Nd} {k : Nat} {fs : List Int} (h : avB ns (k : Int) fs = true) : arriveV ns (k : Int) fs = arrF ns k fs := by unfold arriveV; rw [h]; rfl
theorem av_is {ns : List Nd} {at_ : Int} {fs : List Int} (h : avB ns at_ fs = true) : vnB ns = true ∧ inN ns.length at_ = true ∧ fs.length ≤ 200 ∧ allB fs 500 = true := by
  unfold avB at h; simp only [Bool.and_eq_true, decide_eq_true_eq] at h; exact ⟨h.1.1, h.1.2, h.2.1, h.2.2⟩
end Go.Proofs.Ytigapnbpgbfbhaa
