/- Accounts and towns that are read, by the model. Condition: at most 1048576 of each. -/
import Derived.Test.YtgmmdpdlekpmfaaTwB
import Derived.Test.YtgmmdpdlekpmfaaHoldW
import Derived.Test.YtgmmdpdlekpmfaaTurnS
import Derived.Test.YtgmmdpdlekpmfaaNodS
import Derived.Test.YtgmmdpdlekpmfaaBasS
import Derived.Deep.RegionHeld3
import Derived.Deep.RegionWith
import Derived.Deep.QuietTactic
import Derived.BigQuiet
import Derived.RegionTactic
namespace Go.Proofs.Ytgmmdpdlekpmfaa
open Go.RowKit
set_option linter.unusedSimpArgs false
set_option linter.unusedVariables false
set_option maxRecDepth 100000 in
set_option maxHeartbeats 4000000 in
/-- spec.validAccounts -/
theorem sareA (a : Option Addr) (cap : Nat) (ac : List Ac) (w : World) (h : IsAc w a ac) (hn : ac.length ≤ 1048576) :
    Calls Try.prog 96 #[.slice a ac.length cap] w fun e w' => e = .returned (.bool (acB ac)) ∧ Below w.heap.size w w' := by
  rcases h with rfl | ⟨g, o, rfl, hc⟩
  · go_enter Try.func96, Try.ntmps96
    go_wp2_with fail
    go_rounds 1
    go_ret
    exact ⟨rfl, by go_grown⟩
  · have HC := Lib.hid hc
    clear hc
    go_enter Try.func96, Try.ntmps96
    go_wp2_with fail
    go_loopw [3] (fun i wr => ∃ k : Nat, k ≤ ac.length ∧ i = .int .i64 k ∧ Hid (∀ j, j < k → okAc ac j = true) ∧ Below w.heap.size w wr) (fun i _ => ac.length - (intOf i).toNat)
    case atStart => exact ⟨0, Nat.zero_le _, rfl, (fun j hj => absurd hj (Nat.not_lt_zero _)), by go_grown⟩
    case round =>
      obtain ⟨k, hk, rfl, HA, hB⟩ := hrel
      by_cases hlt : k < ac.length
      · obtain ⟨x0, x1⟩ := ac_at HC.out hB hlt
        have HN := Lib.hid (acB_no (ac := ac) hlt)
        have HY := Lib.hid (fun e => rng_more (f := okAc ac) HA.out ((okAc_last ac k).2 e))
        have hk0 : (0 : Int) ≤ (k : Int) := by omega
        have hk1 : (k : Int) < (ac.length : Int) := by omega
        have HB := Lib.hid hB
        by_cases hz : k = 0
        · have e0 : decide ((0 : Int) < (k : Int)) = false := decide_eq_false (by omega)
          have e0' : decide (0 < k) = false := decide_eq_false (by omega)
          have HL : Hid (lastA ac k = 0) := by subst hz; rfl
          rw [HL.out] at HN HY
          generalize ac.getD k ac0 = q at x0 x1 HN HY
          obtain ⟨x, y⟩ := q
          dsimp only at x0 x1
          clear hB hz
          have K1 := Lib.hid (fun (W : World) (n : Nat) => Calls.quiet_of_same (w := W) (n := n) ((srange3 x 1 999 _).mono (fun _ _ h => ⟨h.1, h.2.symm⟩)))
          have K2 := Lib.hid (fun (W : World) (n : Nat) => Calls.quiet_of_same (w := W) (n := n) ((srange3 y 1 1000000 _).mono (fun _ _ h => ⟨h.1, h.2.symm⟩)))
          obtain ⟨b1, hb1⟩ : ∃ b, inB3 x 1 999 = b := ⟨_, rfl⟩
          obtain ⟨b2, hb2⟩ : ∃ b, inB3 y 1 1000000 = b := ⟨_, rfl⟩
          rw [hb1] at K1
          rw [hb2] at K2
          have H1 := Lib.hid hb1
          have H2 := Lib.hid hb2
          clear hb1 hb2
          cases b1 with
          | false =>
            have hv : Hid (acB ac = false) := HN.out (fun c => by dsimp only at c; have h3 := inB3_no H1.out; omega)
            go_wp2_with fail
            go_quiet (first | (go_at_call_of 63 (Value.int .i64 x); exact K1.out _ _))
            go_wp2_with fail
            go_ret
            exact ⟨ret_bool hv.out.symm, below_drewN HB.out _⟩
          | true =>
          cases b2 with
          | false =>
            have hv : Hid (acB ac = false) := HN.out (fun c => by dsimp only at c; have h3 := inB3_no H2.out; omega)
            go_wp2_with fail
            go_quiet (first | (go_at_call_of 63 (Value.int .i64 x); exact K1.out _ _) | (go_at_call_of 63 (Value.int .i64 y); exact K2.out _ _))
            go_wp2_with fail
            go_ret
            exact ⟨ret_bool hv.out.symm, below_drewN HB.out _⟩
          | true =>
          have HY2 := Lib.hid (HY.out (by dsimp only; have h3 := inB3_yes H1.out; have h4 := inB3_yes H2.out; omega))
          clear HY HN
          go_wp2_with fail
          go_quiet (first | (go_at_call_of 63 (Value.int .i64 x); exact K1.out _ _) | (go_at_call_of 63 (Value.int .i64 y); exact K2.out _ _))
          go_wp2_with fail
          go_roundw
          case rel => exact ⟨k + 1, by omega, by go_num, HY2.out, below_drewN HB.out _⟩
          case measure => simp [intOf]; omega
        · obtain ⟨m, hm⟩ : ∃ m, k = m + 1 := ⟨k - 1, by omega⟩
          have e0 : decide ((0 : Int) < (k : Int)) = true := decide_eq_true (by omega)
          have e0' : decide (0 < k) = true := decide_eq_true (by omega)
          obtain ⟨y0, y1⟩ := ac_at HC.out hB (k := m) (by omega)
          have hw : IntKind.i64.wrap ((k : Int) - 1) = (m : Int) := by rw [IntKind.wrap_i64]; omega
          have hm0 : (0 : Int) ≤ (m : Int) := by omega
          have hm1 : (m : Int) < (ac.length : Int) := by omega
          have HL : Hid (lastA ac k = (ac.getD m ac0).1) := by subst hm; rfl
          rw [HL.out] at HN HY
          generalize ac.getD k ac0 = q at x0 x1 HN HY
          generalize (ac.getD m ac0).1 = l at y0 HN HY
          obtain ⟨x, y⟩ := q
          dsimp only at x0 x1
          clear hB y1 hz hm HL
          have K1 := Lib.hid (fun (W : World) (n : Nat) => Calls.quiet_of_same (w := W) (n := n) ((srange3 x 1 999 _).mono (fun _ _ h => ⟨h.1, h.2.symm⟩)))
          have K2 := Lib.hid (fun (W : World) (n : Nat) => Calls.quiet_of_same (w := W) (n := n) ((srange3 y 1 1000000 _).mono (fun _ _ h => ⟨h.1, h.2.symm⟩)))
          obtain ⟨b1, hb1⟩ : ∃ b, inB3 x 1 999 = b := ⟨_, rfl⟩
          obtain ⟨b2, hb2⟩ : ∃ b, inB3 y 1 1000000 = b := ⟨_, rfl⟩
          rw [hb1] at K1
          rw [hb2] at K2
          have H1 := Lib.hid hb1
          have H2 := Lib.hid hb2
          clear hb1 hb2
          cases b1 with
          | false =>
            have hv : Hid (acB ac = false) := HN.out (fun c => by dsimp only at c; have h3 := inB3_no H1.out; omega)
            go_wp2_with fail
            go_quiet (first | (go_at_call_of 63 (Value.int .i64 x); exact K1.out _ _))
            go_wp2_with fail
            go_ret
            exact ⟨ret_bool hv.out.symm, below_drewN HB.out _⟩
          | true =>
          cases b2 with
          | false =>
            have hv : Hid (acB ac = false) := HN.out (fun c => by dsimp only at c; have h3 := inB3_no H2.out; omega)
            go_wp2_with fail
            go_quiet (first | (go_at_call_of 63 (Value.int .i64 x); exact K1.out _ _) | (go_at_call_of 63 (Value.int .i64 y); exact K2.out _ _))
            go_wp2_with fail
            go_ret
            exact ⟨ret_bool hv.out.symm, below_drewN HB.out _⟩
          | true =>
          by_cases h5 : x ≤ l
          · have e5 : decide (x ≤ l) = true := decide_eq_true h5
            have hv : Hid (acB ac = false) := HN.out (fun c => by dsimp only at c; omega)
            go_wp2_with fail
            go_quiet (first | (go_at_call_of 63 (Value.int .i64 x); exact K1.out _ _) | (go_at_call_of 63 (Value.int .i64 y); exact K2.out _ _))
            go_wp2_with fail
            go_ret
            exact ⟨ret_bool hv.out.symm, below_drewN HB.out _⟩
          have e5 : decide (x ≤ l) = false := decide_eq_false h5
          have HY2 := Lib.hid (HY.out (by dsimp only; have h3 := inB3_yes H1.out; have h4 := inB3_yes H2.out; omega))
          clear HY HN
          go_wp2_with fail
          go_quiet (first | (go_at_call_of 63 (Value.int .i64 x); exact K1.out _ _) | (go_at_call_of 63 (Value.int .i64 y); exact K2.out _ _))
          go_wp2_with fail
          go_roundw
          case rel => exact ⟨k + 1, by omega, by go_num, HY2.out, below_drewN HB.out _⟩
          case measure => simp [intOf]; omega
      · have HE : Hid (acB ac = true) := rng_yes (fun j hj => HA.out j (by omega))
        go_wp2_with fail
        go_ret
        exact ⟨ret_bool HE.out.symm, hB⟩
set_option maxRecDepth 100000 in
set_option maxHeartbeats 4000000 in
/-- spec.given -/
theorem sgiven (a : Option Addr) (cap : Nat) (ac : List Ac) (w : World) (h : IsAc w a ac) (hn : ac.length ≤ 1048576) (hv : acB ac = true) :
    Calls Try.prog 97 #[.slice a ac.length cap] w fun e w' => e = .returned (.int .i64 (acS ac ac.length)) ∧ w = w' := by
  rcases h with rfl | ⟨g, o, rfl, hc⟩
  · go_enter Try.func97, Try.ntmps97
    go_wp2_with fail
    go_rounds 1
    go_ret
    exact ⟨rfl, rfl⟩
  · have HC := Lib.hid hc
    have HB := Lib.hid (acS_bd hv)
    have HV := Lib.hid hv
    clear hc hv
    go_enter Try.func97, Try.ntmps97
    go_wp2_with fail
    go_loop [3, 4] (fun s i => ∃ k : Nat, k ≤ ac.length ∧ i = .int .i64 k ∧ s = .int .i64 (acS ac k)) (fun _ i => ac.length - (intOf i).toNat)
    case atStart => exact ⟨0, Nat.zero_le _, rfl, rfl⟩
    case round =>
      obtain ⟨k, hk, rfl, rfl⟩ := hrel
      obtain ⟨b0, b1⟩ := HB.out k hk
      by_cases hlt : k < ac.length
      · obtain ⟨x0, x1⟩ := HC.out k hlt
        have ht : acS ac (k + 1) = acS ac k + (ac.getD k ac0).2 := rfl
        obtain ⟨_, _, z0, z1, _⟩ := (okAc_iff ac k).1 (acB_at HV.out hlt)
        generalize ac.getD k ac0 = hh at x0 x1 ht z0 z1
        obtain ⟨x, y⟩ := hh
        dsimp only at x0 x1 ht z0 z1
        generalize acS ac k = s at ht b0 b1
        have HT := Lib.hid ht
        
        clear ht 
        go_wp2
        go_round
        case rel => exact ⟨k + 1, by omega, by go_num, by rw [HT.out]⟩
        case measure => simp [intOf]; omega
      · obtain rfl : k = ac.length := by omega
        go_wp2
        go_ret
        exact ⟨rfl, rfl⟩
set_option maxRecDepth 100000 in
set_option maxHeartbeats 4000000 in
/-- spec.validTown -/
theorem svtw (p : TA) (t : Tw) (w : World) (h : IsTw w p t) :
    Calls Try.prog 45 #[twV p t] w fun e w' => e = .returned (.bool (twB t)) ∧ Below w.heap.size w w' := by
  obtain ⟨a1, c1, a2, c2, a3, c3, a4, c4⟩ := p
  obtain ⟨hs, ts, ns, r, hd, ac, rt, tm, ls, cm⟩ := t
  obtain ⟨h1, h2, h3, h4, n1, n2, n3, n4, k1, k2, k3, k4⟩ := h
  dsimp only at h1 h2 h3 h4 n1 n2 n3 n4 k1 k2 k3 k4
  have C1 := fun W (hW : Below w.heap.size w W) => svl a1 c1 hs W (hs_below h1 hW) n1
  have C2 := fun W (hW : Below w.heap.size w W) => svt a2 c2 ts W (tn_below h2 hW) n2
  have C3 := fun W (hW : Below w.heap.size w W) => svn a3 c3 ns W (nd_below h3 hW) n3
  have C4 := fun W => svb r hd W
  have C5 := fun W (hW : Below w.heap.size w W) => sareA a4 c4 ac W (ac_below h4 hW) n4
  have C6 := fun W (hW : Below w.heap.size w W) (hv : acB ac = true) => sgiven a4 c4 ac W (ac_below h4 hW) n4 hv
  obtain ⟨R, hR⟩ : ∃ R, twB ⟨hs, ts, ns, r, hd, ac, rt, tm, ls, cm⟩ = R := ⟨_, rfl⟩
  rw [hR]
  unfold twB at hR
  dsimp only at hR
  have HS5 := Lib.hid (fun (hv : acB ac = true) => acS_bd hv ac.length (Nat.le_refl _))
  obtain ⟨s, hs_⟩ : ∃ s, acS ac ac.length = s := ⟨_, rfl⟩
  rw [hs_] at HS5 C6 hR
  obtain ⟨b1, e1⟩ : ∃ b, vlR hs = b := ⟨_, rfl⟩
  obtain ⟨b2, e2⟩ : ∃ b, vtB ts = b := ⟨_, rfl⟩
  obtain ⟨b3, e3⟩ : ∃ b, vnB ns = b := ⟨_, rfl⟩
  obtain ⟨b4, e4⟩ : ∃ b, vbB r hd = b := ⟨_, rfl⟩
  obtain ⟨b5, e5⟩ : ∃ b, acB ac = b := ⟨_, rfl⟩
  obtain ⟨b6, e6⟩ : ∃ b, inB3 rt 0 500 = b := ⟨_, rfl⟩
  obtain ⟨b7, e7⟩ : ∃ b, inB3 tm 0 5000 = b := ⟨_, rfl⟩
  obtain ⟨b8, e8⟩ : ∃ b, inB3 ls 0 1000000 = b := ⟨_, rfl⟩
  obtain ⟨b9, e9⟩ : ∃ b, inB3 cm 0 1000000 = b := ⟨_, rfl⟩
  rw [e1] at C1 hR
  rw [e2] at C2 hR
  rw [e3] at C3 hR
  rw [e4] at C4 hR
  rw [e5] at C5 hR
  rw [e6, e7, e8, e9] at hR
  have E4 := Lib.hid e4
  have E5 := Lib.hid e5
  have E6 := Lib.hid e6
  have E7 := Lib.hid e7
  have E8 := Lib.hid e8
  have E9 := Lib.hid e9
  have HR := Lib.hid hR
  have H1 := Lib.hid C1
  have H2 := Lib.hid C2
  have H3 := Lib.hid C3
  have H4 := Lib.hid C4
  have H5 := Lib.hid C5
  have H6 := Lib.hid C6
  clear h1 h2 h3 h4 k1 k2 k3 k4 e1 e2 e3 e4 e5 e6 e7 e8 e9 hR C1 C2 C3 C4 C5 C6 hs_ n1 n2 n3
  show Calls _ _ #[.agg #[.slice a1 hs.length c1, .slice a2 ts.length c2, .slice a3 ns.length c3, .int .i64 r, .int .i64 hd, .slice a4 ac.length c4, .int .i64 rt, .int .i64 tm, .int .i64 ls, .int .i64 cm]] _ _
  go_enter Try.func45, Try.ntmps45
  have K := Blk.new w 38 #[.slice a1 hs.length c1, .slice a2 ts.length c2, .slice a3 ns.length c3, .int .i64 r, .int .i64 hd, .slice a4 ac.length c4, .int .i64 rt, .int .i64 tm, .int .i64 ls, .int .i64 cm]
  have B := (Below.refl w.heap.size w).alloc (Nat.le_refl _) (.cells #[.slice a1 hs.length c1, .slice a2 ts.length c2, .slice a3 ns.length c3, .int .i64 r, .int .i64 hd, .slice a4 ac.length c4, .int .i64 rt, .int .i64 tm, .int .i64 ls, .int .i64 cm] 38)
  obtain ⟨q0, q1, q2, q3, q4, q5, q6, q7, q8, q9⟩ := town_cells K
  go_wp2_with fail
  generalize w.alloc (.cells #[.slice a1 hs.length c1, .slice a2 ts.length c2, .slice a3 ns.length c3, .int .i64 r, .int .i64 hd, .slice a4 ac.length c4, .int .i64 rt, .int .i64 tm, .int .i64 ls, .int .i64 cm] 38) = U at K B q0 q1 q2 q3 q4 q5 q6 q7 q8 q9 ⊢
  refine (H1.out _ B).mono ?_
  rintro e u ⟨rfl, C⟩
  replace K := K.next C
  replace B := bel_tr B C
  clear C q0 q1 q2 q3 q4 q5 q6 q7 q8 q9
  obtain ⟨q0, q1, q2, q3, q4, q5, q6, q7, q8, q9⟩ := town_cells K
  cases b1 with
  | false =>
    go_wp2_with fail
    go_ret
    exact ⟨ret_bool HR.out, B⟩
  | true =>
  go_wp2_with fail
  refine (H2.out _ B).mono ?_
  rintro e u ⟨rfl, rfl⟩
  cases b2 with
  | false =>
    go_wp2_with fail
    go_ret
    exact ⟨ret_bool HR.out, B⟩
  | true =>
  go_wp2_with fail
  refine (H3.out _ B).mono ?_
  rintro e u ⟨rfl, C⟩
  replace K := K.next C
  replace B := bel_tr B C
  clear C q0 q1 q2 q3 q4 q5 q6 q7 q8 q9
  obtain ⟨q0, q1, q2, q3, q4, q5, q6, q7, q8, q9⟩ := town_cells K
  cases b3 with
  | false =>
    go_wp2_with fail
    go_ret
    exact ⟨ret_bool HR.out, B⟩
  | true =>
  go_wp2_with fail
  refine (H4.out _).mono ?_
  rintro e u ⟨rfl, C⟩
  replace K := K.next C
  replace B := bel_tr B C
  clear C q0 q1 q2 q3 q4 q5 q6 q7 q8 q9
  obtain ⟨q0, q1, q2, q3, q4, q5, q6, q7, q8, q9⟩ := town_cells K
  cases b4 with
  | false =>
    go_wp2_with fail
    go_ret
    exact ⟨ret_bool HR.out, B⟩
  | true =>
  go_wp2_with fail
  refine (H5.out _ B).mono ?_
  rintro e u ⟨rfl, C⟩
  replace K := K.next C
  replace B := bel_tr B C
  clear C q0 q1 q2 q3 q4 q5 q6 q7 q8 q9
  obtain ⟨q0, q1, q2, q3, q4, q5, q6, q7, q8, q9⟩ := town_cells K
  cases b5 with
  | false =>
    go_wp2_with fail
    go_ret
    exact ⟨ret_bool HR.out, B⟩
  | true =>
  have K6 := Lib.hid (fun (W : World) (n : Nat) => Calls.quiet_of_same (w := W) (n := n) ((srange3 rt 0 500 _).mono (fun _ _ h => ⟨h.1, h.2.symm⟩)))
  rw [E6.out] at K6
  have K7 := Lib.hid (fun (W : World) (n : Nat) => Calls.quiet_of_same (w := W) (n := n) ((srange3 tm 0 5000 _).mono (fun _ _ h => ⟨h.1, h.2.symm⟩)))
  rw [E7.out] at K7
  have K8 := Lib.hid (fun (W : World) (n : Nat) => Calls.quiet_of_same (w := W) (n := n) ((srange3 ls 0 1000000 _).mono (fun _ _ h => ⟨h.1, h.2.symm⟩)))
  rw [E8.out] at K8
  have K9 := Lib.hid (fun (W : World) (n : Nat) => Calls.quiet_of_same (w := W) (n := n) ((srange3 cm 0 1000000 _).mono (fun _ _ h => ⟨h.1, h.2.symm⟩)))
  rw [E9.out] at K9
  have K10 := Lib.hid (fun (n : Nat) => Calls.quiet_of_same (w := u) (n := n) ((H6.out (World.drewN u n) (below_drewN B n) E5.out).mono (fun _ _ h => ⟨h.1, h.2.symm⟩)))
  cases b6 with
  | false =>
    go_wp2_with fail
    go_quiet (first | (go_at_call_of 63 (Value.int .i64 rt); exact K6.out _ _))
    go_wp2_with fail
    go_ret
    exact ⟨ret_bool HR.out, below_drewN B _⟩
  | true =>
  cases b7 with
  | false =>
    go_wp2_with fail
    go_quiet (first | (go_at_call_of 63 (Value.int .i64 rt); exact K6.out _ _) | (go_at_call_of 63 (Value.int .i64 tm); exact K7.out _ _))
    go_wp2_with fail
    go_ret
    exact ⟨ret_bool HR.out, below_drewN B _⟩
  | true =>
  cases b8 with
  | false =>
    go_wp2_with fail
    go_quiet (first | (go_at_call_of 63 (Value.int .i64 rt); exact K6.out _ _) | (go_at_call_of 63 (Value.int .i64 tm); exact K7.out _ _) | (go_at_call_of 63 (Value.int .i64 ls); exact K8.out _ _))
    go_wp2_with fail
    go_ret
    exact ⟨ret_bool HR.out, below_drewN B _⟩
  | true =>
  cases b9 with
  | false =>
    go_wp2_with fail
    go_quiet (first | (go_at_call_of 63 (Value.int .i64 rt); exact K6.out _ _) | (go_at_call_of 63 (Value.int .i64 tm); exact K7.out _ _) | (go_at_call_of 63 (Value.int .i64 ls); exact K8.out _ _) | (go_at_call_of 63 (Value.int .i64 cm); exact K9.out _ _))
    go_wp2_with fail
    go_ret
    exact ⟨ret_bool HR.out, below_drewN B _⟩
  | true =>
  obtain ⟨s0, s1⟩ := HS5.out E5.out
  have v4 : 0 ≤ hd ∧ hd ≤ 20000 := by have := vb_iff.1 E4.out; omega
  obtain ⟨v5, v6⟩ := inB3_yes E8.out
  obtain ⟨v7, v8⟩ := v4
  have hlen : (ac.length : Int) ≤ 1048576 := by omega
  have w1 : IntKind.i64.wrap (s + hd) = s + hd := by rw [IntKind.wrap_i64]; omega
  have w2 : IntKind.i64.wrap (s + hd + ls) = s + hd + ls := by rw [IntKind.wrap_i64]; omega
  clear HS5 hlen n4 s0 s1 v5 v6 v7 v8
  go_wp2_with fail
  go_quiet (first | (go_at_call_of 63 (Value.int .i64 rt); exact K6.out _ _) | (go_at_call_of 63 (Value.int .i64 tm); exact K7.out _ _) | (go_at_call_of 63 (Value.int .i64 ls); exact K8.out _ _) | (go_at_call_of 63 (Value.int .i64 cm); exact K9.out _ _) | (go_at_call_of 97 (Value.slice a4 ac.length c4); exact K10.out _))
  go_wp2_with fail
  go_ret
  exact ⟨itown_last R HR.out.symm, below_drewN B _⟩
end Go.Proofs.Ytgmmdpdlekpmfaa
