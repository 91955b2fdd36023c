/- Customs, by the program: valid ones, the first one for a case, its verdict, and those that are never first. Condition: at most 1048576 customs. -/
import Derived.Test.YtigapnbpgbfbhabRulP
import Derived.Test.YtigapnbpgbfbhabGrA
import Derived.Deep.RegionHeld3
namespace Go.Proofs.Ytigapnbpgbfbhab
open Go.RowKit
set_option linter.unusedSimpArgs false
set_option linter.unusedVariables false
set_option maxRecDepth 100000 in
set_option maxHeartbeats 4000000 in
theorem ispan (f l m : Int) (w : World) : Calls Try.prog 53 #[.int .i64 f, .int .i64 l, .int .i64 m] w fun e w' => e = .returned (.bool (decide (0 ≤ f) && decide (f ≤ l) && decide (l ≤ m))) ∧ w = w' := by
  by_cases p0 : 0 ≤ f
  · by_cases p1 : f ≤ l
    · by_cases p2 : l ≤ m
      · have HM : Hid ((decide (0 ≤ f) && decide (f ≤ l) && decide (l ≤ m)) = true) := by show _ = _; rw [decide_eq_true p0, decide_eq_true p1, decide_eq_true p2]; rfl
        go_enter Try.func53, Try.ntmps53
        go_wp2_with fail
        refine (iwithin_yes f l _ (by omega) (by omega)).mono ?_
        rintro e w' ⟨rfl, rfl⟩
        go_wp2_with fail
        refine (iwithin_yes l m _ (by omega) (by omega)).mono ?_
        rintro e w' ⟨rfl, rfl⟩
        go_wp2_with fail
        go_ret
        exact ⟨ret_bool (by rw [HM.out]), rfl⟩
      · have HM : Hid ((decide (0 ≤ f) && decide (f ≤ l) && decide (l ≤ m)) = false) := by show _ = _; rw [decide_eq_false p2]; simp
        go_enter Try.func53, Try.ntmps53
        go_wp2_with fail
        refine (iwithin_yes f l _ (by omega) (by omega)).mono ?_
        rintro e w' ⟨rfl, rfl⟩
        go_wp2_with fail
        refine (iwithin_no l m _ (by omega)).mono ?_
        rintro e w' ⟨rfl, rfl⟩
        go_wp2_with fail
        go_ret
        exact ⟨ret_bool (by rw [HM.out]), rfl⟩
    · have HM : Hid ((decide (0 ≤ f) && decide (f ≤ l) && decide (l ≤ m)) = false) := by show _ = _; rw [decide_eq_false p1]; simp
      go_enter Try.func53, Try.ntmps53
      go_wp2_with fail
      refine (iwithin_no f l _ (by omega)).mono ?_
      rintro e w' ⟨rfl, rfl⟩
      go_wp2_with fail
      go_ret
      exact ⟨ret_bool (by rw [HM.out]), rfl⟩
  · have HM : Hid ((decide (0 ≤ f) && decide (f ≤ l) && decide (l ≤ m)) = false) := by show _ = _; rw [decide_eq_false p0]; simp
    go_enter Try.func53, Try.ntmps53
    go_wp2_with fail
    refine (iwithin_no f l _ (by omega)).mono ?_
    rintro e w' ⟨rfl, rfl⟩
    go_wp2_with fail
    go_ret
    exact ⟨ret_bool (by rw [HM.out]), rfl⟩
set_option maxRecDepth 100000 in
set_option maxHeartbeats 4000000 in
theorem ifor (x0 x1 x2 x3 x4 h u : Int) (w : World) : Calls Try.prog 57 #[.agg #[.int .i64 x0, .int .i64 x1, .int .i64 x2, .int .i64 x3, .int .i64 x4], .int .i64 h, .int .i64 u] w fun e w' => e = .returned (.bool (fitB (x0, x1, x2, x3, x4) h u)) ∧ Below w.heap.size w w' := by
  by_cases p0 : x0 ≤ h
  · by_cases p1 : h ≤ x1
    · by_cases p2 : x2 ≤ u
      · by_cases p3 : u ≤ x3
        · have HM : Hid (fitB (x0, x1, x2, x3, x4) h u = true) := by
            show fitB _ h u = _
            unfold fitB
            rw [decide_eq_true p0, decide_eq_true p1, decide_eq_true p2, decide_eq_true p3]; rfl
          have dp0 : decide (x0 ≤ h) = true := decide_eq_true p0
          have dp1 : decide (h ≤ x1) = true := decide_eq_true p1
          have dp2 : decide (x2 ≤ u) = true := decide_eq_true p2
          have dp3 : decide (u ≤ x3) = true := decide_eq_true p3
          go_enter Try.func57, Try.ntmps57
          go_wp2_with fail
          go_ret
          exact ⟨ret_bool (by rw [HM.out]), by go_grown⟩
        · have HM : Hid (fitB (x0, x1, x2, x3, x4) h u = false) := by
            show fitB _ h u = _
            unfold fitB
            rw [decide_eq_false p3]; simp
          have dp0 : decide (x0 ≤ h) = true := decide_eq_true p0
          have dp1 : decide (h ≤ x1) = true := decide_eq_true p1
          have dp2 : decide (x2 ≤ u) = true := decide_eq_true p2
          have dp3 : decide (u ≤ x3) = false := decide_eq_false p3
          go_enter Try.func57, Try.ntmps57
          go_wp2_with fail
          go_ret
          exact ⟨ret_bool (by rw [HM.out]), by go_grown⟩
      · have HM : Hid (fitB (x0, x1, x2, x3, x4) h u = false) := by
          show fitB _ h u = _
          unfold fitB
          rw [decide_eq_false p2]; simp
        have dp0 : decide (x0 ≤ h) = true := decide_eq_true p0
        have dp1 : decide (h ≤ x1) = true := decide_eq_true p1
        have dp2 : decide (x2 ≤ u) = false := decide_eq_false p2
        go_enter Try.func57, Try.ntmps57
        go_wp2_with fail
        go_ret
        exact ⟨ret_bool (by rw [HM.out]), by go_grown⟩
    · have HM : Hid (fitB (x0, x1, x2, x3, x4) h u = false) := by
        show fitB _ h u = _
        unfold fitB
        rw [decide_eq_false p1]; simp
      have dp0 : decide (x0 ≤ h) = true := decide_eq_true p0
      have dp1 : decide (h ≤ x1) = false := decide_eq_false p1
      go_enter Try.func57, Try.ntmps57
      go_wp2_with fail
      go_ret
      exact ⟨ret_bool (by rw [HM.out]), by go_grown⟩
  · have HM : Hid (fitB (x0, x1, x2, x3, x4) h u = false) := by
      show fitB _ h u = _
      unfold fitB
      rw [decide_eq_false p0]; simp
    have dp0 : decide (x0 ≤ h) = false := decide_eq_false p0
    go_enter Try.func57, Try.ntmps57
    go_wp2_with fail
    go_ret
    exact ⟨ret_bool (by rw [HM.out]), by go_grown⟩
set_option maxRecDepth 100000 in
set_option maxHeartbeats 4000000 in
/-- impl.ValidRules -/
theorem iVR (a : Option Addr) (cap : Nat) (rs : List Ru) (w : World) (h : IsRu w a rs) (hn : rs.length ≤ 1048576) :
    Calls Try.prog 24 #[.slice a rs.length cap] w fun e w' => e = .returned (.bool (vrB rs)) ∧ Below w.heap.size w w' := by
  by_cases h10 : 10 < rs.length
  · have e1 : decide (10 < (rs.length : Int)) = true := by simp; omega
    have HN := Lib.hid (vr_no1 h10)
    clear h10 h
    go_enter Try.func24, Try.ntmps24
    go_wp2_with fail
    go_ret
    exact ⟨ret_bool HN.out.symm, by go_grown⟩
  have e1 : decide (10 < (rs.length : Int)) = false := by simp; omega
  have HE : Hid ((∀ k, k < rs.length → rB (rs.getD k ru0) = true) → vrB rs = true) := fun q => vr_yes (by omega) q
  have l10 : rs.length ≤ 10 := by omega
  clear h10
  rcases h with rfl | ⟨g, o, rfl, hc⟩
  · have HV := Lib.hid (HE.out (fun k hk => absurd hk (Nat.not_lt_zero _)))
    go_enter Try.func24, Try.ntmps24
    go_wp2_with fail
    go_rounds 1
    go_ret
    exact ⟨ret_bool HV.out.symm, by go_grown⟩
  have HC := Lib.hid hc
  clear hc
  go_enter Try.func24, Try.ntmps24
  go_wp2_with fail
  go_loopw [10] (fun i wr => ∃ k : Nat, k ≤ rs.length ∧ i = .int .i64 k ∧ Hid (∀ j, j < k → rB (rs.getD j ru0) = true) ∧ Below w.heap.size w wr) (fun i _ => rs.length - (intOf i).toNat)
  case atStart => exact ⟨0, Nat.zero_le _, rfl, (fun j hj => absurd hj (Nat.not_lt_zero _)), by go_grown⟩
  case round =>
    obtain ⟨k, hk, rfl, HA, hB⟩ := hrel
    by_cases hlt : k < rs.length
    · obtain ⟨c0, c1, c2, c3, c4⟩ := ru_at HC.out hB hlt
      have hno := vr_no2 (rs := rs) hlt
      have hyes : rB (rs.getD k ru0) = true → ∀ j, j < k + 1 → rB (rs.getD j ru0) = true := fun e => rng_more HA.out e
      generalize rs.getD k ru0 = r at c0 c1 c2 c3 c4 hno hyes
      obtain ⟨x0, x1, x2, x3, x4⟩ := r
      dsimp only at c0 c1 c2 c3 c4
      have C1 := fun W => ispan x0 x1 23 W
      have C2 := fun W => ispan x2 x3 500 W
      obtain ⟨s1, hs1⟩ : ∃ s, (decide (0 ≤ x0) && decide (x0 ≤ x1) && decide (x1 ≤ 23)) = s := ⟨_, rfl⟩
      obtain ⟨s2, hs2⟩ : ∃ s, (decide (0 ≤ x2) && decide (x2 ≤ x3) && decide (x3 ≤ 500)) = s := ⟨_, rfl⟩
      have hr : rB (x0, x1, x2, x3, x4) = (s1 && (s2 && (decide (0 ≤ x4) && decide (x4 ≤ 99)))) := by rw [← hs1, ← hs2]; rfl
      rw [hs1] at C1
      rw [hs2] at C2
      rw [hr] at hno hyes
      have HB := Lib.hid hB
      have HNO := Lib.hid hno
      have HYE := Lib.hid hyes
      have k0 : (0 : Int) ≤ (k : Int) := by omega
      have k1 : (k : Int) < (rs.length : Int) := by omega
      clear hs1 hs2 hr hno hyes hB HA
      cases s1 with
      | false =>
        have HV := Lib.hid (HNO.out rfl)
        go_wp2_with fail
        refine (C1 _).mono ?_
        rintro e w' ⟨rfl, rfl⟩
        go_wp2_with fail
        go_ret
        exact ⟨ret_bool HV.out.symm, HB.out.alloc HB.out.size _⟩
      | true =>
        cases s2 with
        | false =>
          have HV := Lib.hid (HNO.out rfl)
          go_wp2_with fail
          refine (C1 _).mono ?_
          rintro e w' ⟨rfl, rfl⟩
          go_wp2_with fail
          refine (C2 _).mono ?_
          rintro e w' ⟨rfl, rfl⟩
          go_wp2_with fail
          go_ret
          exact ⟨ret_bool HV.out.symm, HB.out.alloc HB.out.size _⟩
        | true =>
          by_cases p : 0 ≤ x4 ∧ x4 ≤ 99
          · have HV := Lib.hid (HYE.out (by rw [decide_eq_true p.1, decide_eq_true p.2]; rfl))
            go_wp2_with fail
            refine (C1 _).mono ?_
            rintro e w' ⟨rfl, rfl⟩
            go_wp2_with fail
            refine (C2 _).mono ?_
            rintro e w' ⟨rfl, rfl⟩
            go_wp2_with fail
            refine (iwithin_yes x4 99 _ p.1 p.2).mono ?_
            rintro e w' ⟨rfl, rfl⟩
            go_wp2_with fail
            go_roundw
            case rel => exact ⟨k + 1, by omega, by go_num, HV.out, HB.out.alloc HB.out.size _⟩
            case measure => simp [intOf]; omega
          · have HV := Lib.hid (HNO.out (by by_cases q : 0 ≤ x4
                                            · rw [decide_eq_false (fun c => p ⟨q, c⟩ : ¬ x4 ≤ 99)]; simp
                                            · rw [decide_eq_false q]; simp))
            go_wp2_with fail
            refine (C1 _).mono ?_
            rintro e w' ⟨rfl, rfl⟩
            go_wp2_with fail
            refine (C2 _).mono ?_
            rintro e w' ⟨rfl, rfl⟩
            go_wp2_with fail
            refine (iwithin_no x4 99 _ (by omega)).mono ?_
            rintro e w' ⟨rfl, rfl⟩
            go_wp2_with fail
            go_ret
            exact ⟨ret_bool HV.out.symm, HB.out.alloc HB.out.size _⟩
    · have HV := Lib.hid (HE.out (fun j hj => HA.out j (by omega)))
      have HB := Lib.hid hB
      clear hB HA
      go_wp2_with fail
      go_ret
      exact ⟨ret_bool HV.out.symm, HB.out⟩
set_option maxRecDepth 100000 in
set_option maxHeartbeats 4000000 in
/-- impl.FirstRule -/
theorem iFR (a : Option Addr) (cap : Nat) (rs : List Ru) (hh u : Int) (w : World) (h : IsRu w a rs) (hn : rs.length ≤ 1048576) :
    Calls Try.prog 27 #[.slice a rs.length cap, .int .i64 hh, .int .i64 u] w fun e w' => e = .returned (.int .i64 (fruV rs hh u)) ∧ Below w.heap.size w w' := by
  have CV := iVR a cap rs w h hn
  cases hv : vrB rs with
  | false =>
    rw [hv] at CV
    have HV := Lib.hid (fruV_no (h := hh) (u := u) hv)
    clear hv h
    go_enter Try.func27, Try.ntmps27
    go_wp2_with fail
    refine CV.mono ?_
    rintro e w1 ⟨rfl, C⟩
    go_wp2_with fail
    go_ret
    exact ⟨ret_int HV.out.symm, C⟩
  | true =>
  rw [hv] at CV
  have HV := Lib.hid (fruV_yes (h := hh) (u := u) hv)
  clear hv
  rcases h with rfl | ⟨g, o, rfl, hc⟩
  · go_enter Try.func27, Try.ntmps27
    go_wp2_with fail
    refine CV.mono ?_
    rintro e w1 ⟨rfl, C⟩
    go_wp2_with fail
    go_rounds 1
    go_ret
    exact ⟨ret_int (by rw [HV.out]; rfl), C⟩
  have HC := Lib.hid hc
  clear hc
  go_enter Try.func27, Try.ntmps27
  go_wp2_with fail
  refine CV.mono ?_
  rintro e w1 ⟨rfl, C⟩
  clear CV
  have HC1 := Lib.hid C
  clear C
  go_wp2_with fail
  go_loopw [14] (fun i wr => ∃ k : Nat, k ≤ rs.length ∧ i = .int .i64 k ∧ Hid (∀ j, j < k → fitB (rs.getD j ru0) hh u = false) ∧ Below w.heap.size w wr) (fun i _ => rs.length - (intOf i).toNat)
  case atStart => exact ⟨0, Nat.zero_le _, rfl, (fun j hj => absurd hj (Nat.not_lt_zero _)), HC1.out⟩
  case round =>
    obtain ⟨k, hk, rfl, HA, hB⟩ := hrel
    by_cases hlt : k < rs.length
    · obtain ⟨c0, c1, c2, c3, c4⟩ := ru_at HC.out hB hlt
      have hyes : fitB (rs.getD k ru0) hh u = true → fruV rs hh u = (k : Int) := fun e => by rw [HV.out]; exact fr_at hlt HA.out e
      have hno : fitB (rs.getD k ru0) hh u = false → ∀ j, j < k + 1 → fitB (rs.getD j ru0) hh u = false := fun e j hj => by
        by_cases c : j = k
        · rw [c]; exact e
        · exact HA.out j (by omega)
      generalize rs.getD k ru0 = r at c0 c1 c2 c3 c4 hno hyes
      obtain ⟨x0, x1, x2, x3, x4⟩ := r
      dsimp only at c0 c1 c2 c3 c4
      have CF := fun W => ifor x0 x1 x2 x3 x4 hh u W
      generalize fitB (x0, x1, x2, x3, x4) hh u = b at hno hyes CF
      have HB := Lib.hid hB
      have HNO := Lib.hid hno
      have HYE := Lib.hid hyes
      have k0 : (0 : Int) ≤ (k : Int) := by omega
      have k1 : (k : Int) < (rs.length : Int) := by omega
      clear hno hyes hB HA
      cases b with
      | true =>
        have HR := Lib.hid (HYE.out rfl)
        go_wp2_with fail
        refine (CF _).mono ?_
        rintro e w2 ⟨rfl, C⟩
        have HX := Lib.hid (bel_tr (HB.out.alloc HB.out.size _) C)
        clear C
        go_wp2_with fail
        go_ret
        exact ⟨ret_int HR.out.symm, HX.out⟩
      | false =>
        have HR := Lib.hid (HNO.out rfl)
        go_wp2_with fail
        refine (CF _).mono ?_
        rintro e w2 ⟨rfl, C⟩
        have HX := Lib.hid (bel_tr (HB.out.alloc HB.out.size _) C)
        clear C
        go_wp2_with fail
        go_roundw
        case rel => exact ⟨k + 1, by omega, by go_num, HR.out, HX.out⟩
        case measure => simp [intOf]; omega
    · have HR : Hid (fruV rs hh u = -1) := by show _ = _; rw [HV.out]; exact fr_none (fun j hj => HA.out j (by omega))
      have HB := Lib.hid hB
      clear hB HA
      go_wp2_with fail
      go_ret
      exact ⟨ret_int HR.out.symm, HB.out⟩
set_option maxRecDepth 100000 in
set_option maxHeartbeats 4000000 in
/-- impl.VerdictOf -/
theorem iVd (a : Option Addr) (cap : Nat) (rs : List Ru) (hh u : Int) (w : World) (h : IsRu w a rs) (hn : rs.length ≤ 1048576) :
    Calls Try.prog 29 #[.slice a rs.length cap, .int .i64 hh, .int .i64 u] w fun e w' => e = .returned (.int .i64 (vdV rs hh u)) ∧ Below w.heap.size w w' := by
  have CF := iFR a cap rs hh u w h hn
  have HVd : Hid (vdV rs hh u = if fruV rs hh u < 0 then -1 else (rs.getD (fruV rs hh u).toNat ru0).2.2.2.2) := rfl
  by_cases e : fruV rs hh u = -1
  · rw [e] at CF
    have HR : Hid (vdV rs hh u = -1) := by show _ = _; rw [HVd.out, e]; rfl
    clear e h HVd
    go_enter Try.func29, Try.ntmps29
    go_wp2_with fail
    refine CF.mono ?_
    rintro e w1 ⟨rfl, C⟩
    go_wp2_with fail
    go_ret
    exact ⟨ret_int HR.out.symm, C⟩
  obtain ⟨k, hk, hkl⟩ : ∃ k : Nat, fruV rs hh u = (k : Int) ∧ k < rs.length := by
    unfold fruV at e ⊢
    split at e
    · rename_i hv
      rw [if_pos hv]
      have := fr_bd rs hh u
      exact ⟨(frF rs hh u).toNat, by omega, by omega⟩
    · exact absurd rfl e
  rw [hk] at CF
  have HR : Hid (vdV rs hh u = (rs.getD k ru0).2.2.2.2) := by
    show _ = _; rw [HVd.out, hk, if_neg (by omega), show ((k : Int)).toNat = k from by omega]
  rcases h with rfl | ⟨g, o, rfl, hc⟩
  · exact absurd hkl (Nat.not_lt_zero _)
  have HC := Lib.hid hc
  have k0 : (0 : Int) ≤ (k : Int) := by omega
  have k1 : (k : Int) < (rs.length : Int) := by omega
  have k2 : ¬ (k : Int) = -1 := by omega
  clear hc e hk HVd
  go_enter Try.func29, Try.ntmps29
  go_wp2_with fail
  refine CF.mono ?_
  rintro e w1 ⟨rfl, C⟩
  obtain ⟨_, _, _, _, c4⟩ := ru_at HC.out C hkl
  have HX := Lib.hid C
  clear C CF
  generalize (rs.getD k ru0).2.2.2.2 = vd at c4 HR
  go_wp2_with fail
  go_ret
  exact ⟨ret_int HR.out.symm, HX.out⟩
set_option maxRecDepth 100000 in
set_option maxHeartbeats 4000000 in
/-- impl.isEverFirst -/
theorem iEver (a : Option Addr) (cap : Nat) (rs : List Ru) (i : Nat) (w : World) (h : IsRu w a rs) (hn : rs.length ≤ 1048576) (hv : vrB rs = true) (hi : i < rs.length) :
    Calls Try.prog 59 #[.slice a rs.length cap, .int .i64 (i : Int)] w fun e w' => e = .returned (.bool (everB rs i)) ∧ Below w.heap.size w w' := by
  have HF : Hid (∀ W hh u, IsRu W a rs → Calls Try.prog 27 #[.slice a rs.length cap, .int .i64 hh, .int .i64 u] W fun e w' => e = .returned (.int .i64 (frF rs hh u)) ∧ Below W.heap.size W w') := fun W hh u hW => by
    have := iFR a cap rs hh u W hW hn
    rw [fruV_yes hv] at this
    exact this
  have HY : Hid (∀ hh u, frF rs hh u = (i : Int) → everB rs i = true) := fun hh u e => (ever_iff hv hi).2 ⟨hh, u, e⟩
  have HN := Lib.hid (ever_no1 hv hi)
  have b := vr_at hv hi
  have HH := Lib.hid h
  rcases h with rfl | ⟨g, o, rfl, hc⟩
  · exact absurd hi (Nat.not_lt_zero _)
  have HC := Lib.hid hc
  have i0 : (0 : Int) ≤ (i : Int) := by omega
  have i1 : (i : Int) < (rs.length : Int) := by omega
  obtain ⟨c0, c1, c2, c3, c4⟩ := ru_at hc (Below.refl _ _) hi
  have HC0 : Hid (∀ W, Below w.heap.size w W → W.cell? ⟨g, o + i * 5 + 1, none⟩ = some (.int .i64 (rs.getD i ru0).2.1) ∧ W.cell? ⟨g, o + i * 5 + 2, none⟩ = some (.int .i64 (rs.getD i ru0).2.2.1) ∧ W.cell? ⟨g, o + i * 5 + 3, none⟩ = some (.int .i64 (rs.getD i ru0).2.2.2.1)) := fun W hB => by
    obtain ⟨_, c1, c2, c3, _⟩ := ru_at hc hB hi
    exact ⟨c1, c2, c3⟩
  clear hc hv
  generalize (rs.getD i ru0).1 = x0 at c0 b HN
  generalize (rs.getD i ru0).2.1 = x1 at c1 b HN HC0
  generalize (rs.getD i ru0).2.2.1 = x2 at c2 b HN HC0
  generalize (rs.getD i ru0).2.2.2.1 = x3 at c3 b HN HC0
  obtain ⟨⟨b0, b1, b2⟩, ⟨b3, b4, b5⟩, _⟩ := b
  clear c1 c2 c3 c4
  go_enter Try.func59, Try.ntmps59
  go_wp2_with fail
  clear c0
  go_loopw [5] (fun v wr => ∃ hh : Int, x0 ≤ hh ∧ hh ≤ x1 + 1 ∧ v = .int .i64 hh ∧ Hid (∀ p u : Int, x0 ≤ p → p < hh → x2 ≤ u → u ≤ x3 → frF rs p u ≠ (i : Int)) ∧ Below w.heap.size w wr) (fun v _ => (x1 + 1 - intOf v).toNat)
  case atStart => exact ⟨x0, Int.le_refl _, by omega, rfl, (fun p u h1 h2 => by omega), by go_grown⟩
  case round =>
    obtain ⟨hh, hh0, hh1, rfl, HA, hB⟩ := hrel
    obtain ⟨c1, c2, c3⟩ := HC0.out _ hB
    by_cases hlt : hh ≤ x1
    · have e1 : decide (hh ≤ x1) = true := decide_eq_true hlt
      have HB := Lib.hid hB
      clear hB c3
      go_wp2_with fail
      clear c1 c2
      go_loopw [6] (fun v wi => ∃ u : Int, x2 ≤ u ∧ u ≤ x3 + 1 ∧ v = .int .i64 u ∧ Hid (∀ q : Int, x2 ≤ q → q < u → frF rs hh q ≠ (i : Int)) ∧ Below w.heap.size w wi) (fun v _ => (x3 + 1 - intOf v).toNat)
      case atStart => exact ⟨x2, Int.le_refl _, by omega, rfl, (fun q h1 h2 => by omega), HB.out⟩
      case round =>
        clear HB
        obtain ⟨u, u0, u1, rfl, HU, hB⟩ := hrel
        obtain ⟨c1, c2, c3⟩ := HC0.out _ hB
        by_cases hut : u ≤ x3
        · have e2 : decide (u ≤ x3) = true := decide_eq_true hut
          have CF := HF.out _ hh u (ru_below HH.out hB)
          have HB := Lib.hid hB
          by_cases e : frF rs hh u = (i : Int)
          · rw [e] at CF
            have HR := Lib.hid (HY.out hh u e)
            clear hB c1 c2 e
            go_wp2_with fail
            refine CF.mono ?_
            rintro e w2 ⟨rfl, C⟩
            have HX := Lib.hid (bel_tr HB.out C)
            clear C
            go_wp2_with fail
            go_ret
            exact ⟨ret_bool HR.out.symm, HX.out⟩
          · have HR : Hid (∀ q : Int, x2 ≤ q → q < u + 1 → frF rs hh q ≠ (i : Int)) := fun q q0 q1 => by
              by_cases c : q = u
              · rw [c]; exact e
              · exact HU.out q q0 (by omega)
            have e3 : (frF rs hh u == (i : Int)) = false := beq_eq_false_iff_ne.2 e
            generalize frF rs hh u = fv at CF e3 e
            have wz : IntKind.i64.wrap (u + 1) = u + 1 := by rw [IntKind.wrap_i64]; omega
            clear hB c1 c2
            go_wp2_with fail
            refine CF.mono ?_
            rintro e w2 ⟨rfl, C⟩
            have HX := Lib.hid (bel_tr HB.out C)
            clear C
            go_wp2_with fail
            go_roundw
            case rel => exact ⟨u + 1, by omega, by omega, rfl, HR.out, HX.out⟩
            case measure => simp only [intOf]; omega
        · have e2 : decide (u ≤ x3) = false := decide_eq_false hut
          have HR : Hid (∀ p q : Int, x0 ≤ p → p < hh + 1 → x2 ≤ q → q ≤ x3 → frF rs p q ≠ (i : Int)) := fun p q p0 p1 q0 q1 => by
            by_cases c : p = hh
            · rw [c]; exact HU.out q q0 (by omega)
            · exact HA.out p q p0 (by omega) q0 q1
          have wz : IntKind.i64.wrap (hh + 1) = hh + 1 := by rw [IntKind.wrap_i64]; omega
          have HB := Lib.hid hB
          clear hB c1 c2
          go_wp2_with fail
          go_roundw
          case rel => exact ⟨hh + 1, by omega, by omega, rfl, HR.out, HB.out⟩
          case measure => simp only [intOf]; omega
    · have e1 : decide (hh ≤ x1) = false := decide_eq_false hlt
      have HR := Lib.hid (HN.out (fun p q p0 p1 q0 q1 => HA.out p q p0 (by omega) q0 q1))
      have HB := Lib.hid hB
      clear hB c2 c3
      go_wp2_with fail
      go_ret
      exact ⟨ret_bool HR.out.symm, HB.out⟩
set_option maxRecDepth 100000 in
set_option maxHeartbeats 4000000 in
/-- impl.DeadRules -/
theorem iDead (a : Option Addr) (cap : Nat) (rs : List Ru) (w : World) (h : IsRu w a rs) (hn : rs.length ≤ 1048576) :
    Calls Try.prog 31 #[.slice a rs.length cap] w (OutI w (deadV rs)) := by
  obtain ⟨i0, hi0, hz0, hz1, hz2⟩ := info_parts infoInt
  have CV := iVR a cap rs w h hn
  cases hv : vrB rs with
  | false =>
    rw [hv] at CV
    rw [deadV_no hv]
    clear hv h
    go_enter Try.func31, Try.ntmps31
    go_wp2_with fail
    refine CV.mono ?_
    rintro e w1 ⟨rfl, C⟩
    go_wp2_with fail
    go_ret
    exact outI_nil C
  | true =>
  rw [hv] at CV
  rw [deadV_yes hv]
  have HE : Hid (∀ (W : World) (i : Nat), Below w.heap.size w W → i < rs.length → Calls Try.prog 59 #[.slice a rs.length cap, .int .i64 (i : Int)] W fun e w' => e = .returned (.bool (everB rs i)) ∧ Below W.heap.size W w') := fun W i hW hi => iEver a cap rs i W (ru_below h hW) hn hv hi
  clear hv h
  go_enter Try.func31, Try.ntmps31
  go_wp2_with fail
  refine CV.mono ?_
  rintro e w1 ⟨rfl, C⟩
  clear CV
  go_wp2_with fail
  go_loopw [3, 11] (fun v i wr => ∃ q : Nat, q ≤ rs.length ∧ i = .int .i64 q ∧ OwnI wr w.heap.size v (deadTo rs q) ∧ Below w.heap.size w wr) (fun _ i _ => rs.length - (intOf i).toNat)
  case atStart => exact ⟨0, Nat.zero_le _, rfl, OwnI.new C, C.alloc C.size _⟩
  case round =>
    clear C
    obtain ⟨q, hq, rfl, hO, hB⟩ := hrel
    by_cases hlt : q < rs.length
    · have CE := HE.out wr q hB hlt
      have hll := deadTo_len rs q
      have HY := Lib.hid (deadTo_yes (rs := rs) (k := q))
      have HNO := Lib.hid (deadTo_no (rs := rs) (k := q))
      have q1 : (q : Int) < (rs.length : Int) := by omega
      generalize deadTo rs q = dq at hO hll HY HNO
      have HO := Lib.hid hO
      have HB := Lib.hid hB
      clear hO hB
      cases hb : everB rs q with
      | true =>
        rw [hb] at CE
        have HR := Lib.hid (HNO.out hb)
        clear hb
        go_wp2_with fail
        refine CE.mono ?_
        rintro e w2 ⟨rfl, C⟩
        have HX := Lib.hid (And.intro (HO.out.of_block C) (bel_tr HB.out C))
        clear C
        go_wp2_with fail
        go_roundw
        case rel => exact ⟨q + 1, by omega, by go_num, by rw [HR.out]; exact HX.out.1, HX.out.2⟩
        case measure => simp [intOf]; omega
      | false =>
        rw [hb] at CE
        have HR := Lib.hid (HY.out hb)
        clear hb
        go_wp2_with fail
        refine CE.mono ?_
        rintro e w2 ⟨rfl, C⟩
        have hO2 := HO.out.of_block C
        have hB2 := bel_tr HB.out C
        have hsz := hB2.size
        have hl2 : dq.length ≤ 1048576 := by omega
        clear C CE
        go_wp2_with (first | (at_builtin; refine wpList_append_own _ rfl (.tmp 18) (.tmp 20) _ rfl w.heap.size 3 i0 (.int .i64 0) 1 8 Try.underlying23 hi0 hz0 hz1 hz2 rfl (by decide) _ _ _ rfl (hO2.alloc _) ⟨w2.heap.size, 0, none⟩ 1 1 [.int .i64 (q : Int)] rfl rfl (cell_one_new _ _ _) (fun x hx => by simp at hx; subst hx; rfl) (by unfold maxLen; omega) (by omega) (by simp; omega) ?_; intro v3 w3 hown3 hgrow3 hnil3))
        have HX : Hid (OwnI w3 w.heap.size v3 (dq ++ [(q : Int)]) ∧ Below w.heap.size w w3) := ⟨OwnI.snoc hown3, (hB2.alloc hsz _).grown hgrow3 (by simp; omega) hO2.grow⟩
        clear hO2 hown3 hgrow3 hnil3 hB2
        go_roundw
        case rel => exact ⟨q + 1, by omega, by go_num, by rw [HR.out]; exact HX.out.1, HX.out.2⟩
        case measure => simp [intOf]; omega
    · have HO := Lib.hid hO
      have HB := Lib.hid hB
      clear hO hB
      go_wp2_with fail
      go_ret
      exact ⟨_, rfl, by rw [show q = rs.length from by omega] at HO; exact HO.out, HB.out⟩
end Go.Proofs.Ytigapnbpgbfbhab
