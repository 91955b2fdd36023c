/- Channels (pure): all water is delivered or lost; least flows. No condition but those stated. -/
import Derived.Test.YtigapnbpgbfbhaaNodQ
namespace Go.Proofs.Ytigapnbpgbfbhaa
set_option linter.unusedVariables false

/-- the sum of some numbers at places -/
def atSum (c : List Int) : List Int → Int
  | [] => 0
  | z :: t => c.getD z.toNat 0 + atSum c t
theorem atSum_append (c a b : List Int) : atSum c (a ++ b) = atSum c a + atSum c b := by
  induction a with
  | nil => show atSum c b = 0 + atSum c b; omega
  | cons h t ih => show c.getD h.toNat 0 + atSum c (t ++ b) = c.getD h.toNat 0 + atSum c t + _; rw [ih]; omega
theorem atSum_got (ns : List Nd) (fl : Int) (k : Int) : atSum (comeF ns fl) (kidsF ns k) = (gotL ns fl k).sum := by
  unfold gotL
  induction kidsF ns k with
  | nil => rfl
  | cons h t ih => rw [List.map_cons, List.sum_cons, ← ih]; rfl
/-- what comes to the kids of the first k nodes, of the first m nodes -/
def gotT (ns : List Nd) (c : List Int) (m : Nat) : Nat → Int
  | 0 => 0
  | k + 1 => gotT ns c m k + atSum c (kidsTo ns (k : Int) m)
theorem gotT_succ (ns : List Nd) (c : List Int) (m k : Nat) : gotT ns c m (k + 1) = gotT ns c m k + atSum c (kidsTo ns (k : Int) m) := rfl
theorem gotT_more (ns : List Nd) (c : List Int) (m : Nat) : ∀ k : Nat, gotT ns c (m + 1) k = gotT ns c m k + if 0 ≤ (ns.getD m nd0).1 ∧ (ns.getD m nd0).1 < (k : Int) then c.getD m 0 else 0 := by
  intro k
  induction k with
  | zero => show (0 : Int) = 0 + _; rw [if_neg (by omega)]; rfl
  | succ k ih =>
    rw [gotT_succ, gotT_succ, ih]
    by_cases e : (ns.getD m nd0).1 = (k : Int)
    · rw [kidsTo_yes e, atSum_append, if_neg (by omega), if_pos (by omega)]
      show _ + (_ + (c.getD ((m : Int)).toNat 0 + 0)) = _
      rw [show ((m : Int)).toNat = m from by omega]; omega
    · rw [kidsTo_no e]
      by_cases h : 0 ≤ (ns.getD m nd0).1 ∧ (ns.getD m nd0).1 < (k : Int)
      · rw [if_pos h, if_pos (by omega)]; omega
      · rw [if_neg h, if_neg (by omega)]; omega
theorem gotT_zero (ns : List Nd) (c : List Int) : ∀ k : Nat, gotT ns c 0 k = 0 := by
  intro k
  induction k with
  | zero => rfl
  | succ k ih => rw [gotT_succ, ih]; rfl
/-- the sum of the first k numbers -/
def sumTo (c : List Int) : Nat → Int
  | 0 => 0
  | k + 1 => sumTo c k + c.getD k 0
theorem sumTo_succ (c : List Int) (k : Nat) : sumTo c (k + 1) = sumTo c k + c.getD k 0 := rfl
theorem got_all {ns : List Nd} (hv : vnB ns = true) (c : List Int) : ∀ m : Nat, m < ns.length → gotT ns c (m + 1) ns.length = sumTo c (m + 1) - c.getD 0 0 := by
  intro m
  induction m with
  | zero =>
    intro h
    rw [gotT_more, gotT_zero, vn_par0 hv, if_neg (by omega)]
    show (0 : Int) + 0 = 0 + c.getD 0 0 - c.getD 0 0; omega
  | succ m ih =>
    intro h
    have p := vn_par hv h (by omega)
    rw [gotT_more, ih (by omega), if_pos (by omega), sumTo_succ c (m + 1)]; omega
theorem lost_leaves {ns : List Nd} (hv : vnB ns = true) {fl : Int} (hf : 0 ≤ fl ∧ fl ≤ 500) : ∀ k : Nat, k ≤ ns.length → lostTo ns fl k + atSum (passF ns fl) (leavesTo ns k) = sumTo (comeF ns fl) k - gotT ns (comeF ns fl) ns.length k := by
  intro k
  induction k with
  | zero => intro _; rfl
  | succ k ih =>
    intro hk
    have a := ih (by omega)
    rw [lostTo_succ, loss_got hv hf (by omega), sumTo_succ, gotT_succ]
    have hg : atSum (comeF ns fl) (kidsTo ns (k : Int) ns.length) = (gotL ns fl (k : Int)).sum := atSum_got ns fl (k : Int)
    rw [hg]
    by_cases hz : (kidsF ns (k : Int)).length = 0
    · have h0 : (gotL ns fl (k : Int)).sum = 0 := by
        have : gotL ns fl (k : Int) = [] := List.eq_nil_of_length_eq_zero (by rw [gotL_len]; exact hz)
        rw [this]; rfl
      rw [if_pos hz, leavesTo_yes hz, atSum_append, h0]
      show _ + (atSum (passF ns fl) (leavesTo ns k) + ((passF ns fl).getD ((k : Int)).toNat 0 + 0)) = _
      rw [show ((k : Int)).toNat = k from by omega]; omega
    · rw [if_neg hz, leavesTo_no hz]; omega
/-- P57 -/
theorem lost_all {ns : List Nd} (hv : vnB ns = true) {fl : Int} (hf : 0 ≤ fl ∧ fl ≤ 500) : lostTo ns fl ns.length + atSum (passF ns fl) (leavesTo ns ns.length) = fl := by
  obtain ⟨l1, _, _⟩ := vn_is hv
  have a := lost_leaves hv hf ns.length (Nat.le_refl _)
  have b := got_all hv (comeF ns fl) (ns.length - 1) (by omega)
  rw [show ns.length - 1 + 1 = ns.length from by omega, come_spring hv] at b
  omega
theorem atSum_take (c ls : List Int) (k : Nat) (h : k < ls.length) : atSum c (ls.take (k + 1)) = atSum c (ls.take k) + c.getD (ls.getD k 0).toNat 0 := by
  rw [take_snocD ls h 0, atSum_append]
  show _ + (_ + 0) = _; omega
theorem atSum_bd {c : List Int} (hc : ∀ i, 0 ≤ c.getD i 0 ∧ c.getD i 0 ≤ 500) : ∀ ls : List Int, 0 ≤ atSum c ls ∧ atSum c ls ≤ 500 * (ls.length : Int) := by
  intro ls
  induction ls with
  | nil => exact ⟨Int.le_refl _, by show (0 : Int) ≤ 500 * ((0 : Nat) : Int); omega⟩
  | cons z t ih =>
    have a := hc z.toNat
    show 0 ≤ c.getD z.toNat 0 + atSum c t ∧ c.getD z.toNat 0 + atSum c t ≤ 500 * ((t.length + 1 : Nat) : Int)
    omega
theorem passF_all {ns : List Nd} (hv : vnB ns = true) {fl : Int} (hf : 0 ≤ fl ∧ fl ≤ 500) (i : Nat) : 0 ≤ (passF ns fl).getD i 0 ∧ (passF ns fl).getD i 0 ≤ 500 := by
  by_cases h : i < ns.length
  · have := passF_bd hv hf h; omega
  · rw [List.getD_eq_getElem?_getD, List.getElem?_eq_none (by rw [passF_len]; omega)]
    exact ⟨Int.le_refl _, by show (0 : Int) ≤ 500; omega⟩
/-- what a least flow is -/
theorem needF_is {ns : List Nd} {k : Nat} {am : Int} : ∀ (m x : Nat), (∃ y : Nat, needF ns k am m x = (y : Int) ∧ x ≤ y ∧ y < x + m ∧ am ≤ (passF ns (y : Int)).getD k 0 ∧ ∀ j : Nat, x ≤ j → j < y → (passF ns (j : Int)).getD k 0 < am) ∨ (needF ns k am m x = -1 ∧ ∀ j : Nat, x ≤ j → j < x + m → (passF ns (j : Int)).getD k 0 < am) := by
  intro m
  induction m with
  | zero => intro x; exact .inr ⟨rfl, fun j h1 h2 => by omega⟩
  | succ m ih =>
    intro x
    by_cases h : am ≤ (passF ns (x : Int)).getD k 0
    · exact .inl ⟨x, if_pos h, Nat.le_refl _, by omega, h, fun j h1 h2 => by omega⟩
    · have e : needF ns k am (m + 1) x = needF ns k am m (x + 1) := if_neg h
      rw [e]
      rcases ih (x + 1) with ⟨y, a, b, c, d, f⟩ | ⟨a, b⟩
      · refine .inl ⟨y, a, by omega, by omega, d, fun j h1 h2 => ?_⟩
        by_cases c : j = x
        · subst c; omega
        · exact f j (by omega) h2
      · refine .inr ⟨a, fun j h1 h2 => ?_⟩
        by_cases c : j = x
        · subst c; omega
        · exact b j (by omega) (by omega)
theorem need_pos {ns : List Nd} {at_ am : Int} (h : ¬ needV ns at_ am < 0) : ∃ k r : Nat, at_ = (k : Int) ∧ needV ns at_ am = (r : Int) ∧ k < ns.length ∧ r ≤ 500 ∧ vnB ns = true ∧ am ≤ (passF ns (r : Int)).getD k 0 ∧ (∀ j : Nat, j < r → (passF ns (j : Int)).getD k 0 < am) ∧ am ≤ (passF ns 500).getD k 0 := by
  have hb : (vnB ns && inN ns.length at_) = true := by
    cases c : (vnB ns && inN ns.length at_) with
    | true => rfl
    | false => exact absurd (by unfold needV; rw [c]; show (-1 : Int) < 0; omega) h
  rw [Bool.and_eq_true] at hb
  obtain ⟨k, rfl, hk⟩ := inN_yes hb.2
  rw [need_yes hb.1 hk] at h ⊢
  rcases needF_is (ns := ns) (k := k) (am := am) 501 0 with ⟨y, a, b, c, d, e⟩ | ⟨a, b⟩
  · have := passF_le hb.1 (x := (y : Int)) (y := 500) (by omega) (by omega) (by omega) hk
    exact ⟨k, y, rfl, a, hk, by omega, hb.1, d, fun j hj => e j (by omega) hj, by omega⟩
  · rw [a] at h; omega
theorem need_iff {ns : List Nd} {k : Nat} {am : Int} (hv : vnB ns = true) (hk : k < ns.length) : (needV ns (k : Int) am < 0) ↔ (passF ns 500).getD k 0 < am := by
  constructor
  · intro h
    rw [need_yes hv hk] at h
    rcases needF_is (ns := ns) (k := k) (am := am) 501 0 with ⟨y, a, _⟩ | ⟨a, b⟩
    · rw [a] at h; omega
    · exact b 500 (by omega) (by omega)
  · intro h
    by_cases c : needV ns (k : Int) am < 0
    · exact c
    · obtain ⟨k', r, e, _, _, _, _, _, _, h2⟩ := need_pos c
      have : k' = k := by omega
      rw [this] at h2; omega
end Go.Proofs.Ytigapnbpgbfbhaa
