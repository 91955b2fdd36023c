/- Valid channels, by the model. Condition: at most 1048576 nodes. -/
import Derived.Test.YtgmmdpdlekpmfaaNodI
namespace Go.Proofs.Ytgmmdpdlekpmfaa
open Go.RowKit
set_option linter.unusedSimpArgs false
set_option linter.unusedVariables false
theorem sinRange (n l h : Int) (w : World) :
    Calls Try.prog 63 #[.int .i64 n, .int .i64 l, .int .i64 h] w fun e w' => e = .returned (.bool (decide (l ≤ n) && decide (n ≤ h))) ∧ w = w' := by
  by_cases c : n < l ∨ h < n
  · have e : (decide (l ≤ n) && decide (n ≤ h)) = false := by
      rcases c with c | c
      · rw [decide_eq_false (by omega : ¬ l ≤ n)]; rfl
      · rw [decide_eq_false (by omega : ¬ n ≤ h)]; simp
    rw [e]; exact inRange_no n l h w c
  · rw [decide_eq_true (by omega : l ≤ n), decide_eq_true (by omega : n ≤ h)]; exact inRange_yes n l h w (by omega) (by omega)
theorem inN_range (n : Nat) (i : Int) : (decide (0 ≤ i) && decide (i ≤ (n : Int) - 1)) = inN n i := by
  unfold inN
  by_cases h : i < (n : Int)
  · rw [decide_eq_true h, decide_eq_true (by omega : i ≤ (n : Int) - 1)]
  · rw [decide_eq_false h, decide_eq_false (by omega : ¬ i ≤ (n : Int) - 1)]
set_option maxHeartbeats 8000000 in
/-- spec.validNodes -/
theorem svn (a : Option Addr) (cap : Nat) (ns : List Nd) (w : World) (h : IsNd w a ns) (hn : ns.length ≤ 1048576) :
    Calls Try.prog 94 #[.slice a ns.length cap] w fun e w' => e = .returned (.bool (vnB ns)) ∧ Below w.heap.size w w' := by
  rcases h with rfl | ⟨g, o, rfl, hc⟩
  · go_enter Try.func94, Try.ntmps94
    go_wp2_with fail
    refine wp_loop_rounds 1 ?_
    rw [rounds_succ]
    go_wp2_with fail
    refine (inRange_no 0 1 12 _ (by omega)).mono ?_
    rintro e w' ⟨rfl, rfl⟩
    go_wp2_with fail
    go_ret
    exact ⟨rfl, by go_grown⟩
  have HC := Lib.hid hc
  have HP := Lib.hid (fun (k : Nat) (_ : k = 0) (p : Int) (e : ¬ p = -1) => (by rw [pB_zero]; exact decide_eq_false e : pB p 0 = false))
  clear hc
  go_enter Try.func94, Try.ntmps94
  go_wp2_with fail
  go_loopw [3] (fun i wr => ∃ k : Nat, k ≤ ns.length ∧ i = .int .i64 k ∧ Hid (∀ j, j < k → okN ns j = true) ∧ Below w.heap.size w wr) (fun i _ => ns.length - (intOf i).toNat)
  case atStart => exact ⟨0, Nat.zero_le _, rfl, fun j hj => by omega, by go_grown⟩
  case round =>
    obtain ⟨k, hk, rfl, HA, hB⟩ := hrel
    by_cases hlt : k < ns.length
    · obtain ⟨c0, c1, c2, c3, c4⟩ := nd_at HC.out hB hlt
      have hnp : pB (ns.getD k nd0).1 k = false → vnB ns = false := fun e => vn_no2 hlt (by unfold okN; rw [e]; rfl)
      have hnm : mB (ns.getD k nd0) = false → vnB ns = false := fun e => vn_no2 hlt (by unfold okN; rw [e]; simp)
      have hyes : pB (ns.getD k nd0).1 k = true → mB (ns.getD k nd0) = true → ∀ j, j < k + 1 → okN ns j = true := fun e1 e2 => rng_more HA.out (by unfold okN; rw [e1, e2]; rfl)
      generalize ns.getD k nd0 = nd at c0 c1 c2 c3 c4 hnp hnm hyes
      obtain ⟨x0, x1, x2, x3, x4⟩ := nd
      dsimp only at c0 c1 c2 c3 c4 hnp hnm hyes
      obtain ⟨b1, h1⟩ : ∃ b, (decide (0 ≤ x1) && decide (x1 ≤ 1000)) = b := ⟨_, rfl⟩
      obtain ⟨b2, h2⟩ : ∃ b, (decide (0 ≤ x2) && decide (x2 ≤ 500)) = b := ⟨_, rfl⟩
      obtain ⟨b3, h3⟩ : ∃ b, (decide (0 ≤ x3) && decide (x3 ≤ 500)) = b := ⟨_, rfl⟩
      obtain ⟨b4, h4⟩ : ∃ b, (decide (0 ≤ x4) && decide (x4 ≤ 20)) = b := ⟨_, rfl⟩
      have hmm : mB (x0, x1, x2, x3, x4) = (b1 && b2 && b3 && b4) := by rw [← h1, ← h2, ← h3, ← h4]; rfl
      have C1 := fun W => sinRange x1 0 1000 W
      have C2 := fun W => sinRange x2 0 500 W
      have C3 := fun W => sinRange x3 0 500 W
      have C4 := fun W => sinRange x4 0 20 W
      rw [h1] at C1
      rw [h2] at C2
      rw [h3] at C3
      rw [h4] at C4
      rw [hmm] at hnm hyes
      have HNP := Lib.hid hnp
      have HNM := Lib.hid hnm
      have HY := Lib.hid hyes
      have HB := Lib.hid hB
      clear h1 h2 h3 h4 hmm hnp hnm hyes hB
      by_cases k0 : k = 0
      · have e0 : ((k : Int) == 0) = true := by simp; omega
        have e1 : (k == 0) = true := by simpa using k0
        have e2 : decide (0 < (k : Int)) = false := decide_eq_false (by omega)
        have e3 : decide (0 < k) = false := decide_eq_false (by omega)
        by_cases hp : x0 = -1
        · have HP2 : Hid (pB x0 k = true) := by show pB x0 k = true; rw [k0, pB_zero]; exact decide_eq_true hp
          clear k0 HNP
          subst hp
          cases b1 with
          | false =>
            have HV : Hid (vnB ns = false) := HNM.out (by simp)
            go_wp2_with fail
            refine (C1 _).mono ?_
            rintro e w' ⟨rfl, rfl⟩
            go_wp2_with fail
            go_ret
            exact ⟨ret_bool HV.out.symm, HB.out.alloc HB.out.size _⟩
          | true =>
            cases b2 with
            | false =>
              have HV : Hid (vnB ns = false) := HNM.out (by simp)
              go_wp2_with fail
              refine (C1 _).mono ?_
              rintro e w' ⟨rfl, rfl⟩
              go_wp2_with fail
              refine (C2 _).mono ?_
              rintro e w' ⟨rfl, rfl⟩
              go_wp2_with fail
              go_ret
              exact ⟨ret_bool HV.out.symm, HB.out.alloc HB.out.size _⟩
            | true =>
              cases b3 with
              | false =>
                have HV : Hid (vnB ns = false) := HNM.out (by simp)
                go_wp2_with fail
                refine (C1 _).mono ?_
                rintro e w' ⟨rfl, rfl⟩
                go_wp2_with fail
                refine (C2 _).mono ?_
                rintro e w' ⟨rfl, rfl⟩
                go_wp2_with fail
                refine (C3 _).mono ?_
                rintro e w' ⟨rfl, rfl⟩
                go_wp2_with fail
                go_ret
                exact ⟨ret_bool HV.out.symm, HB.out.alloc HB.out.size _⟩
              | true =>
                cases b4 with
                | false =>
                  have HV : Hid (vnB ns = false) := HNM.out (by simp)
                  go_wp2_with fail
                  refine (C1 _).mono ?_
                  rintro e w' ⟨rfl, rfl⟩
                  go_wp2_with fail
                  refine (C2 _).mono ?_
                  rintro e w' ⟨rfl, rfl⟩
                  go_wp2_with fail
                  refine (C3 _).mono ?_
                  rintro e w' ⟨rfl, rfl⟩
                  go_wp2_with fail
                  refine (C4 _).mono ?_
                  rintro e w' ⟨rfl, rfl⟩
                  go_wp2_with fail
                  go_ret
                  exact ⟨ret_bool HV.out.symm, HB.out.alloc HB.out.size _⟩
                | true =>
                  have HV := Lib.hid (HY.out HP2.out (by simp))
                  go_wp2_with fail
                  refine (C1 _).mono ?_
                  rintro e w' ⟨rfl, rfl⟩
                  go_wp2_with fail
                  refine (C2 _).mono ?_
                  rintro e w' ⟨rfl, rfl⟩
                  go_wp2_with fail
                  refine (C3 _).mono ?_
                  rintro e w' ⟨rfl, rfl⟩
                  go_wp2_with fail
                  refine (C4 _).mono ?_
                  rintro e w' ⟨rfl, rfl⟩
                  go_wp2_with fail
                  go_roundw
                  case rel => exact ⟨k + 1, by omega, by go_num, HV.out, HB.out.alloc HB.out.size _⟩
                  case measure => simp [intOf]; omega
        · have HV : Hid (vnB ns = false) := HNP.out (by rw [k0]; exact HP.out 0 rfl x0 hp)
          have ep : (x0 == -1) = false := by simpa using hp
          have ep2 : (x0 != -1) = true := by simpa using hp
          have ep3 : decide (x0 = -1) = false := decide_eq_false hp
          clear k0 HNP
          go_wp2_with fail
          go_ret
          exact ⟨ret_bool HV.out.symm, HB.out.alloc HB.out.size _⟩
      · have e0 : ((k : Int) == 0) = false := by simp; omega
        have e1 : (k == 0) = false := by simpa using k0
        have e2 : decide (0 < (k : Int)) = true := decide_eq_true (by omega)
        have e3 : decide (0 < k) = true := decide_eq_true (by omega)
        have e4 : IntKind.i64.wrap ((k : Int) - 1) = (k : Int) - 1 := by rw [IntKind.wrap_i64]; omega
        have hpb : pB x0 k = (decide (0 ≤ x0) && decide (x0 ≤ (k : Int) - 1)) := by rw [pB_pos _ (by omega), inN_range]; rfl
        have C0 := fun W => sinRange x0 0 ((k : Int) - 1) W
        obtain ⟨b0, h0⟩ : ∃ b, (decide (0 ≤ x0) && decide (x0 ≤ (k : Int) - 1)) = b := ⟨_, rfl⟩
        rw [h0] at hpb C0
        have HPB := Lib.hid hpb
        clear h0 hpb k0
        cases b0 with
        | false =>
          have HV : Hid (vnB ns = false) := HNP.out HPB.out
          clear HNP
          go_wp2_with fail
          refine (C0 _).mono ?_
          rintro e w' ⟨rfl, rfl⟩
          go_wp2_with fail
          go_ret
          exact ⟨ret_bool HV.out.symm, HB.out.alloc HB.out.size _⟩
        | true =>
          have HP2 : Hid (pB x0 k = true) := HPB.out
          clear HNP HPB
          cases b1 with
          | false =>
            have HV : Hid (vnB ns = false) := HNM.out (by simp)
            go_wp2_with fail
            refine (C0 _).mono ?_
            rintro e w' ⟨rfl, rfl⟩
            go_wp2_with fail
            refine (C1 _).mono ?_
            rintro e w' ⟨rfl, rfl⟩
            go_wp2_with fail
            go_ret
            exact ⟨ret_bool HV.out.symm, HB.out.alloc HB.out.size _⟩
          | true =>
            cases b2 with
            | false =>
              have HV : Hid (vnB ns = false) := HNM.out (by simp)
              go_wp2_with fail
              refine (C0 _).mono ?_
              rintro e w' ⟨rfl, rfl⟩
              go_wp2_with fail
              refine (C1 _).mono ?_
              rintro e w' ⟨rfl, rfl⟩
              go_wp2_with fail
              refine (C2 _).mono ?_
              rintro e w' ⟨rfl, rfl⟩
              go_wp2_with fail
              go_ret
              exact ⟨ret_bool HV.out.symm, HB.out.alloc HB.out.size _⟩
            | true =>
              cases b3 with
              | false =>
                have HV : Hid (vnB ns = false) := HNM.out (by simp)
                go_wp2_with fail
                refine (C0 _).mono ?_
                rintro e w' ⟨rfl, rfl⟩
                go_wp2_with fail
                refine (C1 _).mono ?_
                rintro e w' ⟨rfl, rfl⟩
                go_wp2_with fail
                refine (C2 _).mono ?_
                rintro e w' ⟨rfl, rfl⟩
                go_wp2_with fail
                refine (C3 _).mono ?_
                rintro e w' ⟨rfl, rfl⟩
                go_wp2_with fail
                go_ret
                exact ⟨ret_bool HV.out.symm, HB.out.alloc HB.out.size _⟩
              | true =>
                cases b4 with
                | false =>
                  have HV : Hid (vnB ns = false) := HNM.out (by simp)
                  go_wp2_with fail
                  refine (C0 _).mono ?_
                  rintro e w' ⟨rfl, rfl⟩
                  go_wp2_with fail
                  refine (C1 _).mono ?_
                  rintro e w' ⟨rfl, rfl⟩
                  go_wp2_with fail
                  refine (C2 _).mono ?_
                  rintro e w' ⟨rfl, rfl⟩
                  go_wp2_with fail
                  refine (C3 _).mono ?_
                  rintro e w' ⟨rfl, rfl⟩
                  go_wp2_with fail
                  refine (C4 _).mono ?_
                  rintro e w' ⟨rfl, rfl⟩
                  go_wp2_with fail
                  go_ret
                  exact ⟨ret_bool HV.out.symm, HB.out.alloc HB.out.size _⟩
                | true =>
                  have HV := Lib.hid (HY.out HP2.out (by simp))
                  go_wp2_with fail
                  refine (C0 _).mono ?_
                  rintro e w' ⟨rfl, rfl⟩
                  go_wp2_with fail
                  refine (C1 _).mono ?_
                  rintro e w' ⟨rfl, rfl⟩
                  go_wp2_with fail
                  refine (C2 _).mono ?_
                  rintro e w' ⟨rfl, rfl⟩
                  go_wp2_with fail
                  refine (C3 _).mono ?_
                  rintro e w' ⟨rfl, rfl⟩
                  go_wp2_with fail
                  refine (C4 _).mono ?_
                  rintro e w' ⟨rfl, rfl⟩
                  go_wp2_with fail
                  go_roundw
                  case rel => exact ⟨k + 1, by omega, by go_num, HV.out, HB.out.alloc HB.out.size _⟩
                  case measure => simp [intOf]; omega
    · obtain rfl : k = ns.length := by omega
      have CE := fun W => sinRange (ns.length : Int) 1 12 W
      rw [← vn_end HA.out] at CE
      have HB := Lib.hid hB
      clear HA hB
      go_wp2_with fail
      refine (CE _).mono ?_
      rintro e w' ⟨rfl, rfl⟩
      go_wp2_with fail
      go_ret
      exact ⟨rfl, HB.out⟩
end Go.Proofs.Ytgmmdpdlekpmfaa
