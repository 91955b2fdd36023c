/- The model's answers on rotations: the next hour, hours and nights. Condition: at most 1048576 turns. -/
import Derived.Test.YthkeopkehjkpeaaTurnZ
import Derived.Test.YthkeopkehjkpeaaTurnY
namespace Go.Proofs.Ythkeopkehjkpeaa
open Go.RowKit
set_option linter.unusedSimpArgs false
set_option linter.unusedVariables false

set_option maxHeartbeats 2000000 in
theorem sNextHour (a : Option Addr) (cap : Nat) (ts : List Tn) (o t : Int) (w : World) (h : IsTn w a ts) (hn : ts.length ≤ 1048576) :
    Calls Try.prog 30 #[.slice a ts.length cap, .int .i64 o, .int .i64 t] w fun e w' => e = .returned (.int .i64 (nextV ts o t)) ∧ Below w.heap.size w w' := by
  have SV := svt a cap ts w h hn
  cases hv : vtB ts with
  | false =>
    have HP : Hid (nextV ts o t = -1) := by show nextV ts o t = -1; unfold nextV; rw [hv]; rfl
    rw [hv] at SV
    clear hv h
    go_enter Try.func30, Try.ntmps30
    go_wp2_with fail
    refine SV.mono ?_
    rintro e w' ⟨rfl, rfl⟩
    go_wp2_with fail
    go_ret
    exact ⟨ret_int HP.out.symm, by go_grown⟩
  | true =>
    obtain ⟨l1, l2, ho, s0, s1⟩ := vt_is hv
    rw [hv] at SV
    cases hb : (decide (0 ≤ t) && decide (t ≤ 5000)) with
    | false =>
      have HP : Hid (nextV ts o t = -1) := by show nextV ts o t = -1; unfold nextV; rw [hv, hb]; rfl
      have ht : t < 0 ∨ 5000 < t := by
        have : ¬ (0 ≤ t ∧ t ≤ 5000) := fun c => by rw [decide_eq_true c.1, decide_eq_true c.2] at hb; cases hb
        omega
      clear hv h hb ho
      go_enter Try.func30, Try.ntmps30
      go_wp2_with fail
      refine SV.mono ?_
      rintro e w' ⟨rfl, rfl⟩
      go_wp2_with fail
      refine (inRange_no t 0 5000 _ ht).mono ?_
      rintro e w' ⟨rfl, rfl⟩
      go_wp2_with fail
      go_ret
      exact ⟨ret_int HP.out.symm, by go_grown⟩
    | true =>
      obtain ⟨F, hF⟩ : ∃ F, fuelT ts t = F := ⟨_, rfl⟩
      have HP : Hid (nextV ts o t = nxtF (fun n => whoM ts n == o) F t) := by show nextV ts o t = _; unfold nextV; rw [hv, hb, hF]; rfl
      simp only [Bool.and_eq_true, decide_eq_true_eq] at hb
      obtain ⟨t0, t1⟩ := hb
      have HV := Lib.hid hv
      have SP := speriod a cap ts w h hn (vt_hz ho)
      have ST := fun (b : Int) (b0 : 0 ≤ b) (b1 : b ≤ 1000000) => sturnAt a cap ts b w h hv b0 b1
      rcases h with rfl | ⟨g, o', rfl, hcl⟩
      · simp at l1
      have HC := Lib.hid hcl
      obtain ⟨S, hS⟩ : ∃ S, sumT ts = S := ⟨_, rfl⟩
      have F1 : (F : Int) ≤ S ∧ (F : Int) ≤ 5001 - t ∧ (S ≤ F ∨ 5001 - t ≤ F) := by
        unfold fuelT at hF; omega
      have s0' : 1 ≤ S := by omega
      have s1' : S ≤ 336 := by omega
      rw [hS] at SP
      clear hv hcl ho hF hS s0 s1
      go_enter Try.func30, Try.ntmps30
      go_wp2_with fail
      refine SV.mono ?_
      rintro e w' ⟨rfl, rfl⟩
      go_wp2_with fail
      refine (inRange_yes t 0 5000 _ t0 t1).mono ?_
      rintro e w' ⟨rfl, rfl⟩
      go_wp2_with fail
      go_loop [7] (fun x => ∃ (b : Int) (m : Nat), x = .int .i64 b ∧ b + (m : Int) = t + F ∧ t ≤ b ∧ Hid (nextV ts o t = nxtF (fun n => whoM ts n == o) m b)) (fun x => (6000 - intOf x).toNat)
      case atStart => exact ⟨t, F, rfl, rfl, Int.le_refl _, HP.out⟩
      case round =>
        obtain ⟨b, m, rfl, hbm, htb, HVm⟩ := hrel
        obtain ⟨hk, hcell⟩ := who_at HC.out HV.out b
        have STb := ST b (by omega) (by omega)
        generalize idxT ts (b % sumT ts) = k at STb hk hcell
        have i0 : (0 : Int) ≤ (k : Int) := by omega
        have i1 : (k : Int) < (ts.length : Int) := by omega
        cases m with
        | zero =>
          by_cases h5 : b < t + S
          · have e5 : decide (b < t + S) = true := decide_eq_true h5
            have e6 : decide (b ≤ 5000) = false := decide_eq_false (by omega)
            clear hbm F1
            go_wp2_with fail
            refine SP.mono ?_
            rintro e w' ⟨rfl, rfl⟩
            go_wp2_with fail
            go_ret
            exact ⟨ret_int HVm.out.symm, by go_grown⟩
          · have e5 : decide (b < t + S) = false := decide_eq_false h5
            clear hbm F1
            go_wp2_with fail
            refine SP.mono ?_
            rintro e w' ⟨rfl, rfl⟩
            go_wp2_with fail
            go_ret
            exact ⟨ret_int HVm.out.symm, by go_grown⟩
        | succ m =>
          have e5 : decide (b < t + S) = true := decide_eq_true (by omega)
          have e6 : decide (b ≤ 5000) = true := decide_eq_true (by omega)
          have bm : b < 6000 := by omega
          have b0 : 0 ≤ b := by omega
          have hbm2 : b + 1 + (m : Int) = t + F := by omega
          have HM := Lib.hid hbm2
          have HV2 := HVm.out
          rw [nxt_succ] at HV2
          generalize whoM ts b = u at hcell HV2
          by_cases e : u = o
          · have HW := Lib.hid (HV2.trans (if_pos (by simpa using e)))
            subst e
            clear HVm HV2 hbm hbm2 F1
            go_wp2_with fail
            refine SP.mono ?_
            rintro e w' ⟨rfl, rfl⟩
            go_wp2_with fail
            refine STb.mono ?_
            rintro e w' ⟨rfl, rfl⟩
            go_wp2_with fail
            go_ret
            exact ⟨ret_int HW.out.symm, by go_grown⟩
          · have HW := Lib.hid (HV2.trans (if_neg (by simpa using e)))
            have e7 : (u == o) = false := by simpa using e
            clear HVm HV2 hbm hbm2 F1 e
            go_wp2_with fail
            refine SP.mono ?_
            rintro e w' ⟨rfl, rfl⟩
            go_wp2_with fail
            refine STb.mono ?_
            rintro e w' ⟨rfl, rfl⟩
            go_wp2_with fail
            go_round
            case rel => exact ⟨b + 1, m, rfl, HM.out, by omega, HW.out⟩
            case measure => simp [intOf]; omega

set_option maxHeartbeats 2000000 in
/-- spec.hoursIn -/
theorem shours (a : Option Addr) (cap : Nat) (ts : List Tn) (o x y : Int) (w : World) (h : IsTn w a ts) (hv : vtB ts = true) (x0 : 0 ≤ x) (xy : x ≤ y) (y5 : y ≤ 5000) :
    Calls Try.prog 60 #[.slice a ts.length cap, .int .i64 o, .int .i64 x, .int .i64 y] w fun e w' => e = .returned (.int .i64 (cntF (fun n => whoM ts n == o) x (y - x).toNat)) ∧ w = w' := by
  obtain ⟨l1, l2, ho, s0, s1⟩ := vt_is hv
  have HV := Lib.hid hv
  have ST := fun (b : Int) (b0 : 0 ≤ b) (b1 : b ≤ 1000000) => sturnAt a cap ts b w h hv b0 b1
  rcases h with rfl | ⟨g, o', rfl, hcl⟩
  · simp at l1
  have HC := Lib.hid hcl
  obtain ⟨M, hM⟩ : ∃ M, (y - x).toNat = M := ⟨_, rfl⟩
  have HM : Hid (x + (M : Int) = y) := by show x + (M : Int) = y; omega
  rw [hM]
  clear hv hcl ho hM s0 s1
  go_enter Try.func60, Try.ntmps60
  go_wp2_with fail
  go_loop [9, 10] (fun u z => ∃ (b : Int) (m : Nat), z = .int .i64 b ∧ Hid (b = x + (m : Int)) ∧ x ≤ b ∧ b ≤ y ∧ m ≤ 5000 ∧ u = .int .i64 (cntF (fun n => whoM ts n == o) x m)) (fun _ z => (6000 - intOf z).toNat)
  case atStart => exact ⟨x, 0, rfl, by show x = x + ((0 : Nat) : Int); omega, Int.le_refl _, xy, by omega, rfl⟩
  case round =>
    obtain ⟨b, m, rfl, hbm, xb, yb, m5, rfl⟩ := hrel
    have c0 := cnt_bd (fun n => whoM ts n == o) x m
    have s0 := cnt_succ (fun n => whoM ts n == o) x m
    rw [← hbm.out] at s0
    by_cases hlt : b < y
    · obtain ⟨hk, hcell⟩ := who_at HC.out HV.out b
      have STb := ST b (by omega) (by omega)
      generalize idxT ts (b % sumT ts) = k at STb hk hcell
      have i0 : (0 : Int) ≤ (k : Int) := by omega
      have i1 : (k : Int) < (ts.length : Int) := by omega
      have b0 : 0 ≤ b := by omega
      have b5 : b < 6000 := by omega
      have m5b : m + 1 ≤ 5000 := by have := hbm.out; omega
      have hb1 : Hid (b + 1 = x + ((m + 1 : Nat) : Int)) := by have := hbm.out; show b + 1 = x + ((m + 1 : Nat) : Int); omega
      generalize cntF (fun n => whoM ts n == o) x m = u0 at c0 s0
      obtain ⟨c00, c01⟩ := c0
      generalize whoM ts b = q at hcell s0
      by_cases e : q = o
      · have S0 : Hid (cntF (fun n => whoM ts n == o) x (m + 1) = u0 + 1) := by show _ = u0 + 1; rw [s0, if_pos (by simpa using e)]
        subst e
        clear s0
        go_wp2_with fail
        refine STb.mono ?_
        rintro e w' ⟨rfl, rfl⟩
        go_wp2_with fail
        go_round
        case rel => exact ⟨b + 1, m + 1, rfl, hb1.out, by omega, by omega, m5b, by rw [S0.out]⟩
        case measure => simp [intOf]; omega
      · have S0 : Hid (cntF (fun n => whoM ts n == o) x (m + 1) = u0) := by show _ = u0; rw [s0, if_neg (by simpa using e)]; omega
        have e7 : (q == o) = false := by simpa using e
        clear s0 e
        go_wp2_with fail
        refine STb.mono ?_
        rintro e w' ⟨rfl, rfl⟩
        go_wp2_with fail
        go_round
        case rel => exact ⟨b + 1, m + 1, rfl, hb1.out, by omega, by omega, m5b, by rw [S0.out]⟩
        case measure => simp [intOf]; omega
    · have hmM : m = M := by have := hbm.out; have := HM.out; omega
      subst hmM
      clear s0 c0
      go_wp2_with fail
      go_ret
      exact ⟨rfl, rfl⟩

theorem snight (t : Int) (w : World) (h : 0 ≤ t) (h2 : t ≤ 1000000) :
    Calls Try.prog 61 #[.int .i64 t] w fun e w' => e = .returned (.bool (isNi t)) ∧ w = w' := by
  have r0 := Int.emod_nonneg t (show (24 : Int) ≠ 0 by omega)
  have r1 := Int.emod_lt_of_pos t (show (0 : Int) < 24 by omega)
  unfold isNi
  by_cases h1 : t % 24 < 6
  · have e1 : decide (t % 24 < 6) = true := decide_eq_true h1
    clear h1
    go_enter Try.func61, Try.ntmps61
    go_wp2
    go_ret
    exact ⟨ret_bool (by rw [e1]; rfl), rfl⟩
  · have e1 : decide (t % 24 < 6) = false := decide_eq_false h1
    clear h1
    go_enter Try.func61, Try.ntmps61
    go_wp2
    go_ret
    exact ⟨ret_bool (by rw [e1]; simp), rfl⟩

set_option maxHeartbeats 4000000 in
theorem sHoursIn (a : Option Addr) (cap : Nat) (ts : List Tn) (o x y : Int) (w : World) (h : IsTn w a ts) (hn : ts.length ≤ 1048576) :
    Calls Try.prog 32 #[.slice a ts.length cap, .int .i64 o, .int .i64 x, .int .i64 y] w fun e w' => e = .returned (.int .i64 (hoursV ts o x y)) ∧ Below w.heap.size w w' := by
  have SV := svt a cap ts w h hn
  cases hv : vtB ts with
  | false =>
    have HP : Hid (hoursV ts o x y = -1) := by show hoursV ts o x y = -1; unfold hoursV; rw [hv]; rfl
    rw [hv] at SV
    clear hv h
    go_enter Try.func32, Try.ntmps32
    go_wp2_with fail
    refine SV.mono ?_
    rintro e w' ⟨rfl, rfl⟩
    go_wp2_with fail
    go_ret
    exact ⟨ret_int HP.out.symm, by go_grown⟩
  | true =>
    have SV2 := SV
    rw [hv] at SV
    cases hb : timesB x y with
    | false =>
      have HP : Hid (hoursV ts o x y = -1) := by show hoursV ts o x y = -1; unfold hoursV; rw [hv, hb]; rfl
      have ht : ¬ (0 ≤ x ∧ x ≤ y ∧ y ≤ 5000) := fun c => by
        unfold timesB at hb; rw [decide_eq_true c.1, decide_eq_true c.2.1, decide_eq_true c.2.2] at hb; cases hb
      clear hv h hb SV2
      by_cases h1 : 0 ≤ y ∧ y ≤ 5000
      · go_enter Try.func32, Try.ntmps32
        go_wp2_with fail
        refine SV.mono ?_
        rintro e w' ⟨rfl, rfl⟩
        go_wp2_with fail
        refine (inRange_yes y 0 5000 _ h1.1 h1.2).mono ?_
        rintro e w' ⟨rfl, rfl⟩
        go_wp2_with fail
        refine (inRange_no x 0 y _ (by omega)).mono ?_
        rintro e w' ⟨rfl, rfl⟩
        go_wp2_with fail
        go_ret
        exact ⟨ret_int HP.out.symm, by go_grown⟩
      · go_enter Try.func32, Try.ntmps32
        go_wp2_with fail
        refine SV.mono ?_
        rintro e w' ⟨rfl, rfl⟩
        go_wp2_with fail
        refine (inRange_no y 0 5000 _ (by omega)).mono ?_
        rintro e w' ⟨rfl, rfl⟩
        go_wp2_with fail
        go_ret
        exact ⟨ret_int HP.out.symm, by go_grown⟩
    | true =>
      have hb2 := hb
      unfold timesB at hb2
      simp only [Bool.and_eq_true, decide_eq_true_eq] at hb2
      obtain ⟨⟨x0, xy⟩, y5⟩ := hb2
      have HP : Hid (hoursV ts o x y = cntF (fun n => whoM ts n == o) x (y - x).toNat) := by show hoursV ts o x y = _; unfold hoursV; rw [hv, hb]; rfl
      have SH := shours a cap ts o x y w h hv x0 xy y5
      clear hv h hb SV2
      go_enter Try.func32, Try.ntmps32
      go_wp2_with fail
      refine SV.mono ?_
      rintro e w' ⟨rfl, rfl⟩
      go_wp2_with fail
      refine (inRange_yes y 0 5000 _ (by omega) y5).mono ?_
      rintro e w' ⟨rfl, rfl⟩
      go_wp2_with fail
      refine (inRange_yes x 0 y _ x0 xy).mono ?_
      rintro e w' ⟨rfl, rfl⟩
      go_wp2_with fail
      refine SH.mono ?_
      rintro e w' ⟨rfl, rfl⟩
      go_wp2_with fail
      go_ret
      exact ⟨ret_int HP.out.symm, by go_grown⟩

set_option maxHeartbeats 4000000 in
theorem sNightsIn (a : Option Addr) (cap : Nat) (ts : List Tn) (o x y : Int) (w : World) (h : IsTn w a ts) (hn : ts.length ≤ 1048576) :
    Calls Try.prog 35 #[.slice a ts.length cap, .int .i64 o, .int .i64 x, .int .i64 y] w fun e w' => e = .returned (.int .i64 (nightsV ts o x y)) ∧ Below w.heap.size w w' := by
  have SV := svt a cap ts w h hn
  cases hv : vtB ts with
  | false =>
    have HP : Hid (nightsV ts o x y = -1) := by show nightsV ts o x y = -1; unfold nightsV; rw [hv]; rfl
    rw [hv] at SV
    clear hv h
    go_enter Try.func35, Try.ntmps35
    go_wp2_with fail
    refine SV.mono ?_
    rintro e w' ⟨rfl, rfl⟩
    go_wp2_with fail
    go_ret
    exact ⟨ret_int HP.out.symm, by go_grown⟩
  | true =>
    have SV2 := SV
    rw [hv] at SV
    cases hb : timesB x y with
    | false =>
      have HP : Hid (nightsV ts o x y = -1) := by show nightsV ts o x y = -1; unfold nightsV; rw [hv, hb]; rfl
      have ht : ¬ (0 ≤ x ∧ x ≤ y ∧ y ≤ 5000) := fun c => by
        unfold timesB at hb; rw [decide_eq_true c.1, decide_eq_true c.2.1, decide_eq_true c.2.2] at hb; cases hb
      clear hv h hb SV2
      by_cases h1 : 0 ≤ y ∧ y ≤ 5000
      · go_enter Try.func35, Try.ntmps35
        go_wp2_with fail
        refine SV.mono ?_
        rintro e w' ⟨rfl, rfl⟩
        go_wp2_with fail
        refine (inRange_yes y 0 5000 _ h1.1 h1.2).mono ?_
        rintro e w' ⟨rfl, rfl⟩
        go_wp2_with fail
        refine (inRange_no x 0 y _ (by omega)).mono ?_
        rintro e w' ⟨rfl, rfl⟩
        go_wp2_with fail
        go_ret
        exact ⟨ret_int HP.out.symm, by go_grown⟩
      · go_enter Try.func35, Try.ntmps35
        go_wp2_with fail
        refine SV.mono ?_
        rintro e w' ⟨rfl, rfl⟩
        go_wp2_with fail
        refine (inRange_no y 0 5000 _ (by omega)).mono ?_
        rintro e w' ⟨rfl, rfl⟩
        go_wp2_with fail
        go_ret
        exact ⟨ret_int HP.out.symm, by go_grown⟩
    | true =>
      have hb2 := hb
      unfold timesB at hb2
      simp only [Bool.and_eq_true, decide_eq_true_eq] at hb2
      obtain ⟨⟨x0, xy⟩, y5⟩ := hb2
      obtain ⟨M, hM⟩ : ∃ M, (y - x).toNat = M := ⟨_, rfl⟩
      have HP : Hid (nightsV ts o x y = cntF (fun n => (whoM ts n == o) && isNi n) x M) := by show nightsV ts o x y = _; unfold nightsV; rw [hv, hb, hM]; rfl
      have HM : Hid (x + (M : Int) = y) := by show x + (M : Int) = y; omega
      obtain ⟨l1, l2, _, _, _⟩ := vt_is hv
      have HV := Lib.hid hv
      have ST := fun (b : Int) (b0 : 0 ≤ b) (b1 : b ≤ 1000000) => sturnAt a cap ts b w h hv b0 b1
      rcases h with rfl | ⟨g, o', rfl, hcl⟩
      · simp at l1
      have HC := Lib.hid hcl
      clear hv hb SV2 hcl hM
      go_enter Try.func35, Try.ntmps35
      go_wp2_with fail
      refine SV.mono ?_
      rintro e w' ⟨rfl, rfl⟩
      go_wp2_with fail
      refine (inRange_yes y 0 5000 _ (by omega) y5).mono ?_
      rintro e w' ⟨rfl, rfl⟩
      go_wp2_with fail
      refine (inRange_yes x 0 y _ x0 xy).mono ?_
      rintro e w' ⟨rfl, rfl⟩
      go_wp2_with fail
      go_loop [9, 10] (fun u z => ∃ (b : Int) (m : Nat), z = .int .i64 b ∧ Hid (b = x + (m : Int)) ∧ x ≤ b ∧ b ≤ y ∧ m ≤ 5000 ∧ u = .int .i64 (cntF (fun n => (whoM ts n == o) && isNi n) x m)) (fun _ z => (6000 - intOf z).toNat)
      case atStart => exact ⟨x, 0, rfl, by show x = x + ((0 : Nat) : Int); omega, Int.le_refl _, xy, by omega, rfl⟩
      case round =>
        obtain ⟨b, m, rfl, hbm, xb, yb, m5, rfl⟩ := hrel
        have c0 := cnt_bd (fun n => (whoM ts n == o) && isNi n) x m
        have s0 := cnt_succ (fun n => (whoM ts n == o) && isNi n) x m
        rw [← hbm.out] at s0
        by_cases hlt : b < y
        · obtain ⟨hk, hcell⟩ := who_at HC.out HV.out b
          have STb := ST b (by omega) (by omega)
          generalize idxT ts (b % sumT ts) = k at STb hk hcell
          have i0 : (0 : Int) ≤ (k : Int) := by omega
          have i1 : (k : Int) < (ts.length : Int) := by omega
          have b0 : 0 ≤ b := by omega
          have b5 : b < 6000 := by omega
          have m5b : m + 1 ≤ 5000 := by have := hbm.out; omega
          have hb1 : Hid (b + 1 = x + ((m + 1 : Nat) : Int)) := by have := hbm.out; show b + 1 = x + ((m + 1 : Nat) : Int); omega
          have SN := fun W => snight b W b0 (by omega)
          generalize cntF (fun n => (whoM ts n == o) && isNi n) x m = u0 at c0 s0
          obtain ⟨c00, c01⟩ := c0
          generalize whoM ts b = q at hcell s0
          generalize isNi b = ni at SN s0
          by_cases e : q = o
          · cases ni with
            | true =>
              have S0 : Hid (cntF (fun n => (whoM ts n == o) && isNi n) x (m + 1) = u0 + 1) := by show _ = u0 + 1; rw [s0, if_pos (by simpa using e)]
              subst e
              clear s0
              go_wp2_with fail
              refine STb.mono ?_
              rintro e w' ⟨rfl, rfl⟩
              go_wp2_with fail
              refine (SN _).mono ?_
              rintro e w' ⟨rfl, rfl⟩
              go_wp2_with fail
              go_round
              case rel => exact ⟨b + 1, m + 1, rfl, hb1.out, by omega, by omega, m5b, by rw [S0.out]⟩
              case measure => simp [intOf]; omega
            | false =>
              have S0 : Hid (cntF (fun n => (whoM ts n == o) && isNi n) x (m + 1) = u0) := by show _ = u0; rw [s0, if_neg (by simp)]; omega
              subst e
              clear s0
              go_wp2_with fail
              refine STb.mono ?_
              rintro e w' ⟨rfl, rfl⟩
              go_wp2_with fail
              refine (SN _).mono ?_
              rintro e w' ⟨rfl, rfl⟩
              go_wp2_with fail
              go_round
              case rel => exact ⟨b + 1, m + 1, rfl, hb1.out, by omega, by omega, m5b, by rw [S0.out]⟩
              case measure => simp [intOf]; omega
          · have S0 : Hid (cntF (fun n => (whoM ts n == o) && isNi n) x (m + 1) = u0) := by show _ = u0; rw [s0, if_neg (by simp [e])]; omega
            have e7 : (q == o) = false := by simpa using e
            clear s0 e
            go_wp2_with fail
            refine STb.mono ?_
            rintro e w' ⟨rfl, rfl⟩
            go_wp2_with fail
            go_round
            case rel => exact ⟨b + 1, m + 1, rfl, hb1.out, by omega, by omega, m5b, by rw [S0.out]⟩
            case measure => simp [intOf]; omega
        · have hmM : m = M := by have := hbm.out; have := HM.out; omega
          subst hmM
          clear s0 c0
          go_wp2_with fail
          go_ret
          exact ⟨ret_int HP.out.symm, by go_grown⟩
end Go.Proofs.Ythkeopkehjkpeaa
