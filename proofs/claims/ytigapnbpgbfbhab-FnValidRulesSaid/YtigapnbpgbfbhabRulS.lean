/- Customs, by the model: valid ones, the first one for a case, its verdict, and those that are never first. Condition: at most 1048576 customs. -/
import Derived.Test.YtigapnbpgbfbhabRulI
import Derived.BigQuiet
import Derived.Deep.QuietTactic
namespace Go.Proofs.Ytigapnbpgbfbhab
open Go.RowKit
set_option linter.unusedSimpArgs false
set_option linter.unusedVariables false
set_option maxRecDepth 100000 in
set_option maxHeartbeats 4000000 in
/-- spec.validRules -/
theorem svR (a : Option Addr) (cap : Nat) (rs : List Ru) (w : World) (h : IsRu w a rs) (hn : rs.length ≤ 1048576) :
    Calls Try.prog 51 #[.slice a rs.length cap] w fun e w' => e = .returned (.bool (vrB rs)) ∧ Below w.heap.size w w' := by
  rcases h with rfl | ⟨g, o, rfl, hc⟩
  · have HV : Hid (vrB ([] : List Ru) = true) := vr_yes (by show 0 ≤ 10; omega) (fun k hk => absurd hk (Nat.not_lt_zero _))
    go_enter Try.func51, Try.ntmps51
    go_wp2_with fail
    go_rounds 1
    go_ret
    exact ⟨ret_bool HV.out.symm, by go_grown⟩
  have HC := Lib.hid hc
  clear hc
  go_enter Try.func51, Try.ntmps51
  go_wp2_with fail
  go_loopw [3] (fun i wr => ∃ k : Nat, k ≤ rs.length ∧ i = .int .i64 k ∧ Hid (∀ j, j < k → rB (rs.getD j ru0) = true) ∧ Below w.heap.size w wr) (fun i _ => rs.length - (intOf i).toNat)
  case atStart => exact ⟨0, Nat.zero_le _, rfl, (fun j hj => absurd hj (Nat.not_lt_zero _)), by go_grown⟩
  case round =>
    obtain ⟨k, hk, rfl, HA, hB⟩ := hrel
    by_cases hlt : k < rs.length
    · obtain ⟨c0, c1, c2, c3, c4⟩ := ru_at HC.out hB hlt
      have HNO := Lib.hid (vr_no2 (rs := rs) hlt)
      have HYE : Hid (rB (rs.getD k ru0) = true → ∀ j, j < k + 1 → rB (rs.getD j ru0) = true) := fun e => rng_more HA.out e
      generalize rs.getD k ru0 = r at c0 c1 c2 c3 c4 HNO HYE
      obtain ⟨x0, x1, x2, x3, x4⟩ := r
      dsimp only at c0 c1 c2 c3 c4
      have HB := Lib.hid hB
      have k0 : (0 : Int) ≤ (k : Int) := by omega
      have k1 : (k : Int) < (rs.length : Int) := by omega
      clear hB HA
      by_cases p0 : 0 ≤ x0 ∧ x0 ≤ 23
      · by_cases p1 : x0 ≤ x1 ∧ x1 ≤ 23
        · by_cases p2 : 0 ≤ x2 ∧ x2 ≤ 500
          · by_cases p3 : x2 ≤ x3 ∧ x3 ≤ 500
            · by_cases p4 : 0 ≤ x4 ∧ x4 ≤ 99
              · have HV := Lib.hid (HYE.out ((rB_iff _).2 ⟨⟨p0.1, p1.1, p1.2⟩, ⟨p2.1, p3.1, p3.2⟩, p4⟩))
                go_wp2_with fail
                refine (inRange_yes x0 0 23 _ p0.1 p0.2).mono ?_
                rintro e w' ⟨rfl, rfl⟩
                go_wp2_with fail
                refine (inRange_yes x1 x0 23 _ p1.1 p1.2).mono ?_
                rintro e w' ⟨rfl, rfl⟩
                go_wp2_with fail
                refine (inRange_yes x2 0 500 _ p2.1 p2.2).mono ?_
                rintro e w' ⟨rfl, rfl⟩
                go_wp2_with fail
                refine (inRange_yes x3 x2 500 _ p3.1 p3.2).mono ?_
                rintro e w' ⟨rfl, rfl⟩
                go_wp2_with fail
                refine (inRange_yes x4 0 99 _ p4.1 p4.2).mono ?_
                rintro e w' ⟨rfl, rfl⟩
                go_wp2_with fail
                go_roundw
                case rel => exact ⟨k + 1, by omega, by go_num, HV.out, HB.out.alloc HB.out.size _⟩
                case measure => simp [intOf]; omega
              · have HV := Lib.hid (HNO.out (rB_no (fun c => p4 (by obtain ⟨⟨a0, a1, a2⟩, ⟨a3, a4, a5⟩, a6, a7⟩ := c; dsimp only at a0 a1 a2 a3 a4 a5 a6 a7; omega))))
                go_wp2_with fail
                refine (inRange_yes x0 0 23 _ p0.1 p0.2).mono ?_
                rintro e w' ⟨rfl, rfl⟩
                go_wp2_with fail
                refine (inRange_yes x1 x0 23 _ p1.1 p1.2).mono ?_
                rintro e w' ⟨rfl, rfl⟩
                go_wp2_with fail
                refine (inRange_yes x2 0 500 _ p2.1 p2.2).mono ?_
                rintro e w' ⟨rfl, rfl⟩
                go_wp2_with fail
                refine (inRange_yes x3 x2 500 _ p3.1 p3.2).mono ?_
                rintro e w' ⟨rfl, rfl⟩
                go_wp2_with fail
                refine (inRange_no x4 0 99 _ (by omega)).mono ?_
                rintro e w' ⟨rfl, rfl⟩
                go_wp2_with fail
                go_ret
                exact ⟨ret_bool HV.out.symm, HB.out.alloc HB.out.size _⟩
            · have HV := Lib.hid (HNO.out (rB_no (fun c => p3 (by obtain ⟨⟨a0, a1, a2⟩, ⟨a3, a4, a5⟩, a6, a7⟩ := c; dsimp only at a0 a1 a2 a3 a4 a5 a6 a7; omega))))
              go_wp2_with fail
              refine (inRange_yes x0 0 23 _ p0.1 p0.2).mono ?_
              rintro e w' ⟨rfl, rfl⟩
              go_wp2_with fail
              refine (inRange_yes x1 x0 23 _ p1.1 p1.2).mono ?_
              rintro e w' ⟨rfl, rfl⟩
              go_wp2_with fail
              refine (inRange_yes x2 0 500 _ p2.1 p2.2).mono ?_
              rintro e w' ⟨rfl, rfl⟩
              go_wp2_with fail
              refine (inRange_no x3 x2 500 _ (by omega)).mono ?_
              rintro e w' ⟨rfl, rfl⟩
              go_wp2_with fail
              go_ret
              exact ⟨ret_bool HV.out.symm, HB.out.alloc HB.out.size _⟩
          · have HV := Lib.hid (HNO.out (rB_no (fun c => p2 (by obtain ⟨⟨a0, a1, a2⟩, ⟨a3, a4, a5⟩, a6, a7⟩ := c; dsimp only at a0 a1 a2 a3 a4 a5 a6 a7; omega))))
            go_wp2_with fail
            refine (inRange_yes x0 0 23 _ p0.1 p0.2).mono ?_
            rintro e w' ⟨rfl, rfl⟩
            go_wp2_with fail
            refine (inRange_yes x1 x0 23 _ p1.1 p1.2).mono ?_
            rintro e w' ⟨rfl, rfl⟩
            go_wp2_with fail
            refine (inRange_no x2 0 500 _ (by omega)).mono ?_
            rintro e w' ⟨rfl, rfl⟩
            go_wp2_with fail
            go_ret
            exact ⟨ret_bool HV.out.symm, HB.out.alloc HB.out.size _⟩
        · have HV := Lib.hid (HNO.out (rB_no (fun c => p1 (by obtain ⟨⟨a0, a1, a2⟩, ⟨a3, a4, a5⟩, a6, a7⟩ := c; dsimp only at a0 a1 a2 a3 a4 a5 a6 a7; omega))))
          go_wp2_with fail
          refine (inRange_yes x0 0 23 _ p0.1 p0.2).mono ?_
          rintro e w' ⟨rfl, rfl⟩
          go_wp2_with fail
          refine (inRange_no x1 x0 23 _ (by omega)).mono ?_
          rintro e w' ⟨rfl, rfl⟩
          go_wp2_with fail
          go_ret
          exact ⟨ret_bool HV.out.symm, HB.out.alloc HB.out.size _⟩
      · have HV := Lib.hid (HNO.out (rB_no (fun c => p0 (by obtain ⟨⟨a0, a1, a2⟩, ⟨a3, a4, a5⟩, a6, a7⟩ := c; dsimp only at a0 a1 a2 a3 a4 a5 a6 a7; omega))))
        go_wp2_with fail
        refine (inRange_no x0 0 23 _ (by omega)).mono ?_
        rintro e w' ⟨rfl, rfl⟩
        go_wp2_with fail
        go_ret
        exact ⟨ret_bool HV.out.symm, HB.out.alloc HB.out.size _⟩
    · have HV := Lib.hid (vr_end (fun j hj => HA.out j (by omega)))
      have HB := Lib.hid hB
      clear hB HA
      go_wp2_with fail
      go_ret
      exact ⟨ret_bool HV.out.symm, HB.out⟩
set_option maxRecDepth 100000 in
set_option maxHeartbeats 4000000 in
/-- spec.ValidRules -/
theorem sVR (a : Option Addr) (cap : Nat) (rs : List Ru) (w : World) (h : IsRu w a rs) (hn : rs.length ≤ 1048576) :
    Calls Try.prog 22 #[.slice a rs.length cap] w fun e w' => e = .returned (.bool (vrB rs)) ∧ Below w.heap.size w w' := by
  have CV := svR a cap rs w h hn
  go_enter Try.func22, Try.ntmps22
  go_wp2_with fail
  refine CV.mono ?_
  rintro e w1 ⟨rfl, C⟩
  go_wp2_with fail
  go_ret
  exact ⟨rfl, C⟩
set_option maxRecDepth 100000 in
set_option maxHeartbeats 4000000 in
theorem ibool (n l h : Int) (w : World) : Calls Try.prog 64 #[.int .i64 n, .int .i64 l, .int .i64 h] w fun e w' => e = .returned (.bool (decide (l ≤ n) && decide (n ≤ h))) ∧ w = w' := by
  by_cases p : l ≤ n ∧ n ≤ h
  · rw [decide_eq_true p.1, decide_eq_true p.2]; exact inRange_yes n l h w p.1 p.2
  · have e : (decide (l ≤ n) && decide (n ≤ h)) = false := by
      by_cases q : l ≤ n
      · rw [decide_eq_false (fun c => p ⟨q, c⟩ : ¬ n ≤ h)]; simp
      · rw [decide_eq_false q]; rfl
    rw [e]; exact inRange_no n l h w (by omega)
set_option maxRecDepth 100000 in
set_option maxHeartbeats 4000000 in
/-- spec.firstRule -/
theorem sfR (a : Option Addr) (cap : Nat) (rs : List Ru) (hh u : Int) (w : World) (h : IsRu w a rs) (hn : rs.length ≤ 1048576) :
    Calls Try.prog 56 #[.slice a rs.length cap, .int .i64 hh, .int .i64 u] w fun e w' => e = .returned (.int .i64 (frF rs hh u)) ∧ Below w.heap.size w w' := by
  rcases h with rfl | ⟨g, o, rfl, hc⟩
  · go_enter Try.func56, Try.ntmps56
    go_wp2_with fail
    go_rounds 1
    go_ret
    exact ⟨rfl, by go_grown⟩
  have HC := Lib.hid hc
  clear hc
  go_enter Try.func56, Try.ntmps56
  go_wp2_with fail
  go_loopw [7] (fun i wr => ∃ k : Nat, k ≤ rs.length ∧ i = .int .i64 k ∧ Hid (∀ j, j < k → fitB (rs.getD j ru0) hh u = false) ∧ Below w.heap.size w wr) (fun i _ => rs.length - (intOf i).toNat)
  case atStart => exact ⟨0, Nat.zero_le _, rfl, (fun j hj => absurd hj (Nat.not_lt_zero _)), by go_grown⟩
  case round =>
    obtain ⟨k, hk, rfl, HA, hB⟩ := hrel
    by_cases hlt : k < rs.length
    · obtain ⟨c0, c1, c2, c3, c4⟩ := ru_at HC.out hB hlt
      have hyes : fitB (rs.getD k ru0) hh u = true → frF rs hh u = (k : Int) := fun e => fr_at hlt HA.out e
      have hno : fitB (rs.getD k ru0) hh u = false → ∀ j, j < k + 1 → fitB (rs.getD j ru0) hh u = false := fun e j hj => by
        by_cases c : j = k
        · rw [c]; exact e
        · exact HA.out j (by omega)
      generalize rs.getD k ru0 = r at c0 c1 c2 c3 c4 hno hyes
      obtain ⟨x0, x1, x2, x3, x4⟩ := r
      dsimp only at c0 c1 c2 c3 c4
      have K1 := fun (W : World) (n : Nat) => Calls.quiet_of_same (w := W) (n := n) ((ibool hh x0 x1 _).mono (fun _ _ h => ⟨h.1, h.2.symm⟩))
      have K2 := fun (W : World) (n : Nat) => Calls.quiet_of_same (w := W) (n := n) ((ibool u x2 x3 _).mono (fun _ _ h => ⟨h.1, h.2.symm⟩))
      obtain ⟨s1, hs1⟩ : ∃ s, (decide (x0 ≤ hh) && decide (hh ≤ x1)) = s := ⟨_, rfl⟩
      obtain ⟨s2, hs2⟩ : ∃ s, (decide (x2 ≤ u) && decide (u ≤ x3)) = s := ⟨_, rfl⟩
      have hf : fitB (x0, x1, x2, x3, x4) hh u = (s1 && s2) := by rw [← hs1, ← hs2]; rfl
      rw [hs1] at K1
      rw [hs2] at K2
      rw [hf] at hno hyes
      have HB := Lib.hid hB
      have HNO := Lib.hid hno
      have HYE := Lib.hid hyes
      have k0 : (0 : Int) ≤ (k : Int) := by omega
      have k1 : (k : Int) < (rs.length : Int) := by omega
      clear hs1 hs2 hf hno hyes hB HA
      cases s1 with
      | false =>
        have HR := Lib.hid (HNO.out rfl)
        have HK1 := Lib.hid K1
        have HK2 := Lib.hid K2
        clear K1 K2
        go_wp2_with fail
        go_quiet (first | (go_at_call_of 64 (Value.int .i64 hh); exact HK1.out _ _))
        go_wp2_with fail
        go_roundw
        case rel => exact ⟨k + 1, by omega, by go_num, HR.out, below_drewN HB.out _⟩
        case measure => simp [intOf]; omega
      | true =>
        cases s2 with
        | false =>
          have HR := Lib.hid (HNO.out rfl)
          have HK1 := Lib.hid K1
          have HK2 := Lib.hid K2
          clear K1 K2
          go_wp2_with fail
          go_quiet (first | (go_at_call_of 64 (Value.int .i64 hh); exact HK1.out _ _) | (go_at_call_of 64 (Value.int .i64 u); exact HK2.out _ _))
          go_wp2_with fail
          go_roundw
          case rel => exact ⟨k + 1, by omega, by go_num, HR.out, below_drewN HB.out _⟩
          case measure => simp [intOf]; omega
        | true =>
          have HR := Lib.hid (HYE.out rfl)
          have HK1 := Lib.hid K1
          have HK2 := Lib.hid K2
          clear K1 K2
          go_wp2_with fail
          go_quiet (first | (go_at_call_of 64 (Value.int .i64 hh); exact HK1.out _ _) | (go_at_call_of 64 (Value.int .i64 u); exact HK2.out _ _))
          go_wp2_with fail
          go_ret
          exact ⟨ret_int HR.out.symm, below_drewN HB.out _⟩
    · have HR : Hid (frF rs hh u = -1) := fr_none (fun j hj => HA.out j (by omega))
      have HB := Lib.hid hB
      clear hB HA
      go_wp2_with fail
      go_ret
      exact ⟨ret_int HR.out.symm, HB.out⟩
set_option maxRecDepth 100000 in
set_option maxHeartbeats 4000000 in
/-- spec.FirstRule -/
theorem sFR (a : Option Addr) (cap : Nat) (rs : List Ru) (hh u : Int) (w : World) (h : IsRu w a rs) (hn : rs.length ≤ 1048576) :
    Calls Try.prog 26 #[.slice a rs.length cap, .int .i64 hh, .int .i64 u] w fun e w' => e = .returned (.int .i64 (fruV rs hh u)) ∧ Below w.heap.size w w' := by
  have CV := svR a cap rs w h hn
  have HH := Lib.hid h
  cases hv : vrB rs with
  | false =>
    rw [hv] at CV
    have HV := Lib.hid (fruV_no (h := hh) (u := u) hv)
    clear hv h
    go_enter Try.func26, Try.ntmps26
    go_wp2_with fail
    refine CV.mono ?_
    rintro e w1 ⟨rfl, C⟩
    go_wp2_with fail
    go_ret
    exact ⟨ret_int HV.out.symm, C⟩
  | true =>
    rw [hv] at CV
    have HV := Lib.hid (fruV_yes (h := hh) (u := u) hv)
    clear hv h
    go_enter Try.func26, Try.ntmps26
    go_wp2_with fail
    refine CV.mono ?_
    rintro e w1 ⟨rfl, C⟩
    have CF := sfR a cap rs hh u w1 (ru_below HH.out C) hn
    have HX := Lib.hid C
    clear C CV
    go_wp2_with fail
    refine CF.mono ?_
    rintro e w2 ⟨rfl, C⟩
    go_wp2_with fail
    go_ret
    exact ⟨ret_int HV.out.symm, bel_tr HX.out C⟩
set_option maxRecDepth 100000 in
set_option maxHeartbeats 4000000 in
/-- spec.VerdictOf -/
theorem sVd (a : Option Addr) (cap : Nat) (rs : List Ru) (hh u : Int) (w : World) (h : IsRu w a rs) (hn : rs.length ≤ 1048576) :
    Calls Try.prog 28 #[.slice a rs.length cap, .int .i64 hh, .int .i64 u] w fun e w' => e = .returned (.int .i64 (vdV rs hh u)) ∧ Below w.heap.size w w' := by
  have CV := svR a cap rs w h hn
  have HF : Hid (∀ W, Below w.heap.size w W → Calls Try.prog 56 #[.slice a rs.length cap, .int .i64 hh, .int .i64 u] W fun e w' => e = .returned (.int .i64 (frF rs hh u)) ∧ Below W.heap.size W w') := fun W hW => sfR a cap rs hh u W (ru_below h hW) hn
  cases hv : vrB rs with
  | false =>
    rw [hv] at CV
    have HV : Hid (vdV rs hh u = -1) := by show _ = _; unfold vdV; rw [fruV_no hv]; rfl
    clear hv h HF
    go_enter Try.func28, Try.ntmps28
    go_wp2_with fail
    refine CV.mono ?_
    rintro e w1 ⟨rfl, C⟩
    go_wp2_with fail
    go_ret
    exact ⟨ret_int HV.out.symm, C⟩
  | true =>
  rw [hv] at CV
  rcases fr_cases rs hh u with ⟨e, _⟩ | ⟨k, hkl, e, _⟩
  · have HV : Hid (vdV rs hh u = -1) := by show _ = _; unfold vdV; rw [fruV_yes hv, e]; rfl
    rw [e] at HF
    clear hv h e
    go_enter Try.func28, Try.ntmps28
    go_wp2_with fail
    refine CV.mono ?_
    rintro e w1 ⟨rfl, C⟩
    have CF := HF.out w1 C
    have HX := Lib.hid C
    clear C CV
    go_wp2_with fail
    refine CF.mono ?_
    rintro e w2 ⟨rfl, C⟩
    go_wp2_with fail
    go_ret
    exact ⟨ret_int HV.out.symm, bel_tr HX.out C⟩
  · have HV : Hid (vdV rs hh u = (rs.getD k ru0).2.2.2.2) := by show _ = _; unfold vdV; rw [fruV_yes hv, e, if_neg (by omega), show ((k : Int)).toNat = k from by omega]
    rw [e] at HF
    rcases h with rfl | ⟨g, o, rfl, hc⟩
    · exact absurd hkl (Nat.not_lt_zero _)
    have HC := Lib.hid hc
    have k0 : (0 : Int) ≤ (k : Int) := by omega
    have k1 : (k : Int) < (rs.length : Int) := by omega
    have k2 : decide ((k : Int) < 0) = false := decide_eq_false (by omega)
    clear hv e hc
    go_enter Try.func28, Try.ntmps28
    go_wp2_with fail
    refine CV.mono ?_
    rintro e w1 ⟨rfl, C⟩
    have CF := HF.out w1 C
    have HX := Lib.hid C
    clear C CV
    go_wp2_with fail
    refine CF.mono ?_
    rintro e w2 ⟨rfl, C⟩
    have HX2 := Lib.hid (bel_tr HX.out C)
    clear C CF
    have CF := HF.out w2 HX2.out
    go_wp2_with fail
    refine CF.mono ?_
    rintro e w3 ⟨rfl, C⟩
    have HX3 := Lib.hid (bel_tr HX2.out C)
    obtain ⟨_, _, _, _, c4⟩ := ru_at HC.out HX3.out hkl
    clear C CF
    generalize (rs.getD k ru0).2.2.2.2 = vd at c4 HV
    go_wp2_with fail
    go_ret
    exact ⟨ret_int HV.out.symm, HX3.out⟩
end Go.Proofs.Ytigapnbpgbfbhab
