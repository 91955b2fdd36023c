/- Channels that are read, by the program: indices, measures, valid channels. Condition: at most 1048576 nodes. -/
import Derived.Test.YtgmmdpdlekpmfaaNodP
import Derived.Test.YtgmmdpdlekpmfaaGrA
import Derived.Deep.RegionWith
namespace Go.Proofs.Ytgmmdpdlekpmfaa
open Go.RowKit
set_option linter.unusedSimpArgs false
set_option linter.unusedVariables false

/-- impl.isWithin, as a number -/
theorem iwithin (n m : Int) (w : World) :
    Calls Try.prog 54 #[.int .i64 n, .int .i64 m] w fun e w' => e = .returned (.bool (decide (0 ≤ n) && decide (n ≤ m))) ∧ w = w' := by
  by_cases h : n < 0 ∨ m < n
  · have e : (decide (0 ≤ n) && decide (n ≤ m)) = false := by
      rcases h with h | h
      · rw [decide_eq_false (by omega : ¬ 0 ≤ n)]; rfl
      · rw [decide_eq_false (by omega : ¬ n ≤ m)]; simp
    rw [e]; exact iwithin_no n m w h
  · rw [decide_eq_true (by omega : 0 ≤ n), decide_eq_true (by omega : n ≤ m)]; exact iwithin_yes n m w (by omega) (by omega)
/-- impl.isNode -/
theorem iisNode (a : Option Addr) (n cap : Nat) (i : Int) (w : World) (hn : n ≤ 1048576) :
    Calls Try.prog 102 #[.slice a n cap, .int .i64 i] w fun e w' => e = .returned (.bool (inN n i)) ∧ w = w' := by
  by_cases h1 : 0 ≤ i
  · have hd : decide (0 ≤ i) = true := decide_eq_true h1
    clear h1
    go_enter Try.func102, Try.ntmps102
    go_wp2
    go_ret
    exact ⟨ret_bool (by unfold inN; rw [hd]; rfl), rfl⟩
  · have hd : decide (0 ≤ i) = false := decide_eq_false h1
    clear h1
    go_enter Try.func102, Try.ntmps102
    go_wp2
    go_ret
    exact ⟨ret_bool (by unfold inN; rw [hd]; rfl), rfl⟩

set_option maxHeartbeats 1000000 in
/-- impl.hasMeasures -/
theorem imeasures (x0 x1 x2 x3 x4 : Int) (w : World) :
    Calls Try.prog 103 #[.agg #[.int .i64 x0, .int .i64 x1, .int .i64 x2, .int .i64 x3, .int .i64 x4]] w fun e w' => e = .returned (.bool (mB (x0, x1, x2, x3, x4))) ∧ Below w.heap.size w w' := by
  obtain ⟨b1, h1⟩ : ∃ b, (decide (0 ≤ x1) && decide (x1 ≤ 1000)) = b := ⟨_, rfl⟩
  obtain ⟨b2, h2⟩ : ∃ b, (decide (0 ≤ x2) && decide (x2 ≤ 500)) = b := ⟨_, rfl⟩
  obtain ⟨b3, h3⟩ : ∃ b, (decide (0 ≤ x3) && decide (x3 ≤ 500)) = b := ⟨_, rfl⟩
  obtain ⟨b4, h4⟩ : ∃ b, (decide (0 ≤ x4) && decide (x4 ≤ 20)) = b := ⟨_, rfl⟩
  have HM : Hid (mB (x0, x1, x2, x3, x4) = (b1 && b2 && b3 && b4)) := by show mB _ = _; rw [← h1, ← h2, ← h3, ← h4]; rfl
  have C1 := fun W => iwithin x1 1000 W
  have C2 := fun W => iwithin x2 500 W
  have C3 := fun W => iwithin x3 500 W
  have C4 := fun W => iwithin x4 20 W
  rw [h1] at C1
  rw [h2] at C2
  rw [h3] at C3
  rw [h4] at C4
  clear h1 h2 h3 h4
  cases b1 with
  | false =>
    go_enter Try.func103, Try.ntmps103
    go_wp2_with fail
    refine (C1 _).mono ?_
    rintro e w' ⟨rfl, rfl⟩
    go_wp2_with fail
    go_ret
    exact ⟨ret_bool (by rw [HM.out]; simp), by go_grown⟩
  | true =>
    cases b2 with
    | false =>
      go_enter Try.func103, Try.ntmps103
      go_wp2_with fail
      refine (C1 _).mono ?_
      rintro e w' ⟨rfl, rfl⟩
      go_wp2_with fail
      refine (C2 _).mono ?_
      rintro e w' ⟨rfl, rfl⟩
      go_wp2_with fail
      go_ret
      exact ⟨ret_bool (by rw [HM.out]; simp), by go_grown⟩
    | true =>
      cases b3 with
      | false =>
        go_enter Try.func103, Try.ntmps103
        go_wp2_with fail
        refine (C1 _).mono ?_
        rintro e w' ⟨rfl, rfl⟩
        go_wp2_with fail
        refine (C2 _).mono ?_
        rintro e w' ⟨rfl, rfl⟩
        go_wp2_with fail
        refine (C3 _).mono ?_
        rintro e w' ⟨rfl, rfl⟩
        go_wp2_with fail
        go_ret
        exact ⟨ret_bool (by rw [HM.out]; simp), by go_grown⟩
      | true =>
        cases b4 with
        | false =>
          go_enter Try.func103, Try.ntmps103
          go_wp2_with fail
          refine (C1 _).mono ?_
          rintro e w' ⟨rfl, rfl⟩
          go_wp2_with fail
          refine (C2 _).mono ?_
          rintro e w' ⟨rfl, rfl⟩
          go_wp2_with fail
          refine (C3 _).mono ?_
          rintro e w' ⟨rfl, rfl⟩
          go_wp2_with fail
          refine (C4 _).mono ?_
          rintro e w' ⟨rfl, rfl⟩
          go_wp2_with fail
          go_ret
          exact ⟨ret_bool (by rw [HM.out]; simp), by go_grown⟩
        | true =>
          go_enter Try.func103, Try.ntmps103
          go_wp2_with fail
          refine (C1 _).mono ?_
          rintro e w' ⟨rfl, rfl⟩
          go_wp2_with fail
          refine (C2 _).mono ?_
          rintro e w' ⟨rfl, rfl⟩
          go_wp2_with fail
          refine (C3 _).mono ?_
          rintro e w' ⟨rfl, rfl⟩
          go_wp2_with fail
          refine (C4 _).mono ?_
          rintro e w' ⟨rfl, rfl⟩
          go_wp2_with fail
          go_ret
          exact ⟨ret_bool (by rw [HM.out]; simp), by go_grown⟩

theorem ok_first {ns : List Nd} (h : ¬ (ns.getD 0 nd0).1 = -1) : okN ns 0 = false := by
  unfold okN; rw [pB_zero, decide_eq_false h]; rfl
set_option maxHeartbeats 4000000 in
/-- impl.ValidNodes -/
theorem iVN (a : Option Addr) (cap : Nat) (ns : List Nd) (w : World) (h : IsNd w a ns) (hn : ns.length ≤ 1048576) (hcap : ns.length ≤ cap) :
    Calls Try.prog 51 #[.slice a ns.length cap] w fun e w' => e = .returned (.bool (vnB ns)) ∧ Below w.heap.size w w' := by
  by_cases h0 : ns.length < 1
  · have e0 : decide ((ns.length : Int) < 1) = true := by simp; omega
    have HN := Lib.hid (vn_no0 h0)
    clear h0
    go_enter Try.func51, Try.ntmps51
    go_wp2_with fail
    go_ret
    exact ⟨ret_bool HN.out.symm, by go_grown⟩
  have e0 : decide ((ns.length : Int) < 1) = false := by simp; omega
  by_cases h24 : 12 < ns.length
  · have e1 : decide (12 < (ns.length : Int)) = true := by simp; omega
    have HN := Lib.hid (vn_no1 h24)
    clear h24 h0
    go_enter Try.func51, Try.ntmps51
    go_wp2_with fail
    go_ret
    exact ⟨ret_bool HN.out.symm, by go_grown⟩
  have e1 : decide (12 < (ns.length : Int)) = false := by simp; omega
  rcases h with rfl | ⟨g, o, rfl, hc⟩
  · exact absurd (by simp) h0
  have HC := Lib.hid hc
  have l0 : (0 : Int) < (ns.length : Int) := by omega
  have l1 : 1 ≤ ns.length := by omega
  have l12 : ns.length ≤ 12 := by omega
  have c00 := (hc 0 (by omega)).1
  rw [show o + 0 * 5 = o from by omega] at c00
  have hfirst := fun e => vn_no2 (ns := ns) (k := 0) (by omega) (ok_first e)
  have hf0 : ∀ p, (ns.getD 0 nd0).1 = p → p = -1 → pB p 0 = true := fun p _ e => by rw [pB_zero]; exact decide_eq_true e
  by_cases hp : (ns.getD 0 nd0).1 = -1
  rotate_left
  · have HF := Lib.hid (hfirst hp)
    have ep : ((ns.getD 0 nd0).1 == -1) = false := by simpa using hp
    generalize (ns.getD 0 nd0).1 = p at c00 ep
    clear hc hp h0 h24 hfirst hf0
    go_enter Try.func51, Try.ntmps51
    go_wp2_with fail
    go_ret
    exact ⟨ret_bool HF.out.symm, by go_grown⟩
  rw [hp] at c00
  clear hc h0 h24 hfirst hf0
  have HP := Lib.hid hp
  clear hp
  go_enter Try.func51, Try.ntmps51
  go_wp2_with fail
  go_loopw [22] (fun i wr => ∃ k : Nat, k ≤ ns.length ∧ i = .int .i64 k ∧ Hid (∀ j, j < k → okN ns j = true) ∧ Below w.heap.size w wr) (fun i _ => ns.length - (intOf i).toNat)
  case atStart => exact ⟨0, Nat.zero_le _, rfl, fun j hj => by omega, by go_grown⟩
  case round =>
    obtain ⟨k, hk, rfl, HA, hB⟩ := hrel
    by_cases hlt : k < ns.length
    · obtain ⟨c0, c1, c2, c3, c4⟩ := nd_at HC.out hB hlt
      obtain ⟨q, hq⟩ : ∃ q, mB (ns.getD k nd0) = q := ⟨_, rfl⟩
      have hk0 : k = 0 → (ns.getD k nd0).1 = -1 := fun e => by subst e; exact HP.out
      have hno : (pB (ns.getD k nd0).1 k = false ∨ q = false) → vnB ns = false := fun e => vn_no2 hlt (by unfold okN; rcases e with e | e <;> rw [hq, e] <;> simp)
      have hyes : pB (ns.getD k nd0).1 k = true → q = true → ∀ j, j < k + 1 → okN ns j = true := fun e1 e2 => rng_more HA.out (by unfold okN; rw [hq, e1, e2]; rfl)
      have CM := fun W => imeasures (ns.getD k nd0).1 (ns.getD k nd0).2.1 (ns.getD k nd0).2.2.1 (ns.getD k nd0).2.2.2.1 (ns.getD k nd0).2.2.2.2 W
      have hq' : mB ((ns.getD k nd0).1, (ns.getD k nd0).2.1, (ns.getD k nd0).2.2.1, (ns.getD k nd0).2.2.2.1, (ns.getD k nd0).2.2.2.2) = q := hq
      rw [hq'] at CM
      clear hq hq'
      generalize (ns.getD k nd0).1 = x0 at c0 hno hyes CM hk0
      generalize (ns.getD k nd0).2.1 = x1 at c1 CM
      generalize (ns.getD k nd0).2.2.1 = x2 at c2 CM
      generalize (ns.getD k nd0).2.2.2.1 = x3 at c3 CM
      generalize (ns.getD k nd0).2.2.2.2 = x4 at c4 CM
      have HN := Lib.hid hno
      have HY := Lib.hid hyes
      have HB := Lib.hid hB
      have kb0 : (0 : Int) ≤ (k : Int) := by omega
      have kb1 : (k : Int) ≤ (cap : Int) := by omega
      have kb2 : (k : Int) < (ns.length : Int) := by omega
      clear hno hyes hB
      by_cases k0 : k = 0
      · have d0 : decide (0 < (k : Int)) = false := decide_eq_false (by omega)
        have d1 : decide (0 < k) = false := decide_eq_false (by omega)
        have HP2 : Hid (pB x0 k = true) := by show pB x0 k = true; rw [hk0 k0, k0]; rfl
        clear hk0 k0
        cases q with
        | false =>
          have HV := Lib.hid (HN.out (.inr rfl))
          go_wp2_with fail
          go_quiet (fail)
          go_wp2_with fail
          refine (CM _).mono ?_
          rintro e w1 ⟨rfl, C⟩
          go_wp2_with fail
          go_ret
          exact ⟨ret_bool HV.out.symm, bel_tr (below_drewN (HB.out.alloc HB.out.size _) _) C⟩
        | true =>
          have HV := Lib.hid (HY.out HP2.out rfl)
          go_wp2_with fail
          go_quiet (fail)
          go_wp2_with fail
          refine (CM _).mono ?_
          rintro e w1 ⟨rfl, C⟩
          go_wp2_with fail
          go_roundw
          case rel => exact ⟨k + 1, by omega, by go_num, HV.out, bel_tr (below_drewN (HB.out.alloc HB.out.size _) _) C⟩
          case measure => simp [intOf]; omega
      · have d0 : decide (0 < (k : Int)) = true := decide_eq_true (by omega)
        have d1 : decide (0 < k) = true := decide_eq_true (by omega)
        have hpb : pB x0 k = inN k x0 := by rw [pB_pos _ (by omega)]; rfl
        have CI := fun W => iisNode (some ⟨g, o, none⟩) k cap x0 W (by omega)
        obtain ⟨t, ht⟩ : ∃ t, inN k x0 = t := ⟨_, rfl⟩
        rw [ht] at CI hpb
        have HP2 := Lib.hid hpb
        have KI := Lib.hid (fun (W : World) (j : Nat) => Calls.quiet_of_same (w := W) (n := j) ((CI _).mono (fun _ _ h => ⟨h.1, h.2.symm⟩)))
        clear hk0 k0 hpb ht CI
        cases t with
        | false =>
          have HV := Lib.hid (HN.out (.inl HP2.out))
          go_wp2_with fail
          go_quiet (first | (go_at_call_of 102 (Value.slice (some ⟨g, o, none⟩) k cap); exact KI.out _ _))
          go_wp2_with fail
          go_ret
          exact ⟨ret_bool HV.out.symm, below_drewN (HB.out.alloc HB.out.size _) _⟩
        | true =>
          cases q with
          | false =>
            have HV := Lib.hid (HN.out (.inr rfl))
            go_wp2_with fail
            go_quiet (first | (go_at_call_of 102 (Value.slice (some ⟨g, o, none⟩) k cap); exact KI.out _ _))
            go_wp2_with fail
            refine (CM _).mono ?_
            rintro e w1 ⟨rfl, C⟩
            go_wp2_with fail
            go_ret
            exact ⟨ret_bool HV.out.symm, bel_tr (below_drewN (HB.out.alloc HB.out.size _) _) C⟩
          | true =>
            have HV := Lib.hid (HY.out HP2.out rfl)
            go_wp2_with fail
            go_quiet (first | (go_at_call_of 102 (Value.slice (some ⟨g, o, none⟩) k cap); exact KI.out _ _))
            go_wp2_with fail
            refine (CM _).mono ?_
            rintro e w1 ⟨rfl, C⟩
            go_wp2_with fail
            go_roundw
            case rel => exact ⟨k + 1, by omega, by go_num, HV.out, bel_tr (below_drewN (HB.out.alloc HB.out.size _) _) C⟩
            case measure => simp [intOf]; omega
    · obtain rfl : k = ns.length := by omega
      have HE := Lib.hid (vn_yes l1 l12 HA.out)
      have HB := Lib.hid hB
      clear HA hB
      go_wp2_with fail
      go_ret
      exact ⟨ret_bool HE.out.symm, HB.out⟩
end Go.Proofs.Ytgmmdpdlekpmfaa
