/- The program's counts of hours and nights. Condition: at most 1048576 turns. -/
import Derived.Test.YthkeopkehjkpeaaTurnX
namespace Go.Proofs.Ythkeopkehjkpeaa
open Go.RowKit
set_option linter.unusedSimpArgs false
set_option linter.unusedVariables false

theorem inight (t : Int) (w : World) (h : 0 ≤ t) (h2 : t ≤ 1000000) :
    Calls Try.prog 65 #[.int .i64 t] w fun e w' => e = .returned (.bool (isNi t)) ∧ w = w' := by
  have r0 := Int.emod_nonneg t (show (24 : Int) ≠ 0 by omega)
  have r1 := Int.emod_lt_of_pos t (show (0 : Int) < 24 by omega)
  unfold isNi
  by_cases h1 : t % 24 < 6
  · have e1 : decide (t % 24 < 6) = true := decide_eq_true h1
    clear h1
    go_enter Try.func65, Try.ntmps65
    go_wp2
    go_ret
    exact ⟨ret_bool (by rw [e1]; rfl), rfl⟩
  · have e1 : decide (t % 24 < 6) = false := decide_eq_false h1
    clear h1
    go_enter Try.func65, Try.ntmps65
    go_wp2
    go_ret
    exact ⟨ret_bool (by rw [e1]; simp), rfl⟩

set_option maxHeartbeats 4000000 in
theorem icount (a : Option Addr) (cap : Nat) (ts : List Tn) (o x y : Int) (w : World) (h : IsTn w a ts) (hn : ts.length ≤ 1048576) :
    Calls Try.prog 52 #[.slice a ts.length cap, .int .i64 o, .int .i64 x, .int .i64 y] w fun e w' => e = .returned (.tuple #[.int .i64 (hoursV ts o x y), .int .i64 (nightsV ts o x y)]) ∧ Below w.heap.size w w' := by
  have IV := iVT a cap ts w h hn
  have H := Lib.hid h
  cases hv : vtB ts with
  | false =>
    have HP : Hid (hoursV ts o x y = -1 ∧ nightsV ts o x y = -1) := ⟨by unfold hoursV; rw [hv]; rfl, by unfold nightsV; rw [hv]; rfl⟩
    rw [hv] at IV
    clear hv h
    go_enter Try.func52, Try.ntmps52
    go_wp2_with fail
    refine IV.mono ?_
    rintro e w1 ⟨rfl, C⟩
    go_wp2_with fail
    go_returns
    exact ⟨by rw [HP.out.1, HP.out.2]; rfl, C⟩
  | true =>
    obtain ⟨l1, l2, ho, s0, s1⟩ := vt_is hv
    obtain ⟨N, hN⟩ : ∃ N, (sumT ts).toNat = N := ⟨_, rfl⟩
    have IO := fun W hW => iownersN a cap ts W hW hv N hN
    have HN := Lib.hid hN
    have N1 : 1 ≤ N := by omega
    have N2 : N ≤ 336 := by omega
    have HS := Lib.hid s0
    rw [hv] at IV
    cases hb : timesB x y with
    | false =>
      have HP : Hid (hoursV ts o x y = -1 ∧ nightsV ts o x y = -1) := ⟨by unfold hoursV; rw [hv, hb]; rfl, by unfold nightsV; rw [hv, hb]; rfl⟩
      have ht : ¬ (0 ≤ x ∧ x ≤ y ∧ y ≤ 5000) := fun c => by
        unfold timesB at hb; rw [decide_eq_true c.1, decide_eq_true c.2.1, decide_eq_true c.2.2] at hb; cases hb
      clear hv h hb ho hN s0 s1
      by_cases h1 : x < 0
      · have e1 : decide (x < 0) = true := decide_eq_true h1
        clear ht h1
        go_enter Try.func52, Try.ntmps52
        go_wp2_with fail
        refine IV.mono ?_
        rintro e w1 ⟨rfl, C⟩
        go_wp2_with fail
        go_returns
        exact ⟨by rw [HP.out.1, HP.out.2]; rfl, C⟩
      · have e1 : decide (x < 0) = false := decide_eq_false h1
        by_cases h2 : y < x
        · have e2 : decide (y < x) = true := decide_eq_true h2
          clear ht h1 h2
          go_enter Try.func52, Try.ntmps52
          go_wp2_with fail
          refine IV.mono ?_
          rintro e w1 ⟨rfl, C⟩
          go_wp2_with fail
          go_returns
          exact ⟨by rw [HP.out.1, HP.out.2]; rfl, C⟩
        · have e2 : decide (y < x) = false := decide_eq_false h2
          have e3 : decide (5000 < y) = true := decide_eq_true (by omega)
          clear ht h1 h2
          go_enter Try.func52, Try.ntmps52
          go_wp2_with fail
          refine IV.mono ?_
          rintro e w1 ⟨rfl, C⟩
          go_wp2_with fail
          go_returns
          exact ⟨by rw [HP.out.1, HP.out.2]; rfl, C⟩
    | true =>
      obtain ⟨M, hM⟩ : ∃ M, (y - x).toNat = M := ⟨_, rfl⟩
      have HP : Hid (hoursV ts o x y = cntF (fun n => whoM ts n == o) x M ∧ nightsV ts o x y = cntF (fun n => (whoM ts n == o) && isNi n) x M) := ⟨by unfold hoursV; rw [hv, hb, hM]; rfl, by unfold nightsV; rw [hv, hb, hM]; rfl⟩
      unfold timesB at hb
      simp only [Bool.and_eq_true, decide_eq_true_eq] at hb
      obtain ⟨⟨t0, t1⟩, t2⟩ := hb
      have M1 : x + (M : Int) = y := by omega
      have e1 : decide (x < 0) = false := decide_eq_false (by omega)
      have e2 : decide (y < x) = false := decide_eq_false (by omega)
      have e3 : decide (5000 < y) = false := decide_eq_false (by omega)
      have HM := Lib.hid M1
      clear hv h ho hN s0 s1 hM M1
      go_enter Try.func52, Try.ntmps52
      go_wp2_with fail
      refine IV.mono ?_
      rintro e w1 ⟨rfl, C⟩
      have HB := Lib.hid C
      clear C
      go_wp2_with fail
      refine (IO _ (tn_below H.out HB.out)).mono ?_
      rintro e w2 ⟨g, rfl, R, D⟩
      have HD := Lib.hid (bel_tr HB.out D)
      have HR := Lib.hid R
      clear D R
      go_wp2_with fail
      go_loop [11, 12, 13] (fun u v z => ∃ (b : Int) (m : Nat), z = .int .i64 b ∧ Hid (b = x + (m : Int)) ∧ x ≤ b ∧ b ≤ y ∧ m ≤ 5000 ∧ u = .int .i64 (cntF (fun n => whoM ts n == o) x m) ∧ v = .int .i64 (cntF (fun n => (whoM ts n == o) && isNi n) x m)) (fun _ _ z => (6000 - intOf z).toNat)
      case atStart => exact ⟨x, 0, rfl, by show x = x + ((0 : Nat) : Int); omega, Int.le_refl _, t1, by omega, rfl, rfl⟩
      case round =>
        obtain ⟨b, m, rfl, hbm, xb, yb, m5, rfl, rfl⟩ := hrel
        have c0 := cnt_bd (fun n => whoM ts n == o) x m
        have c1 := cnt_bd (fun n => (whoM ts n == o) && isNi n) x m
        have s0 := cnt_succ (fun n => whoM ts n == o) x m
        have s1 := cnt_succ (fun n => (whoM ts n == o) && isNi n) x m
        rw [← hbm.out] at s0 s1
        by_cases hlt : b < y
        · obtain ⟨q, hq, hqN, hcell⟩ := who_cell HR.out HN.out HS.out (show 0 ≤ b by omega)
          have i0 : (0 : Int) ≤ (q : Int) := by omega
          have i1 : (q : Int) < (N : Int) := by omega
          have n0 : (0 : Int) < (N : Int) := by omega
          have b0 : 0 ≤ b := by omega
          have b5 : b < 6000 := by omega
          have m5b : m + 1 ≤ 5000 := by have := hbm.out; omega
          have hb1 : Hid (b + 1 = x + ((m + 1 : Nat) : Int)) := by have := hbm.out; show b + 1 = x + ((m + 1 : Nat) : Int); omega
          generalize cntF (fun n => whoM ts n == o) x m = u0 at c0 s0
          generalize cntF (fun n => (whoM ts n == o) && isNi n) x m = v0 at c1 s1
          obtain ⟨c00, c01⟩ := c0
          obtain ⟨c10, c11⟩ := c1
          generalize whoM ts b = k at hcell s0 s1
          by_cases e : k = o
          · cases hn2 : isNi b with
            | true =>
              have IN := fun W => inight b W b0 (by omega)
              rw [hn2] at IN s1
              have S0 : Hid (cntF (fun n => whoM ts n == o) x (m + 1) = u0 + 1) := by show _ = u0 + 1; rw [s0, if_pos (by simpa using e)]
              have S1 : Hid (cntF (fun n => (whoM ts n == o) && isNi n) x (m + 1) = v0 + 1) := by show _ = v0 + 1; rw [s1, if_pos (by simpa using e)]
              subst e
              clear s0 s1 hn2
              go_wp2_with fail
              refine (IN _).mono ?_
              rintro e w' ⟨rfl, rfl⟩
              go_wp2_with fail
              go_round
              case rel => exact ⟨b + 1, m + 1, rfl, hb1.out, by omega, by omega, m5b, by rw [S0.out], by rw [S1.out]⟩
              case measure => simp [intOf]; omega
            | false =>
              have IN := fun W => inight b W b0 (by omega)
              rw [hn2] at IN s1
              have S0 : Hid (cntF (fun n => whoM ts n == o) x (m + 1) = u0 + 1) := by show _ = u0 + 1; rw [s0, if_pos (by simpa using e)]
              have S1 : Hid (cntF (fun n => (whoM ts n == o) && isNi n) x (m + 1) = v0) := by show _ = v0; rw [s1, if_neg (by simp)]; omega
              subst e
              clear s0 s1 hn2
              go_wp2_with fail
              refine (IN _).mono ?_
              rintro e w' ⟨rfl, rfl⟩
              go_wp2_with fail
              go_round
              case rel => exact ⟨b + 1, m + 1, rfl, hb1.out, by omega, by omega, m5b, by rw [S0.out], by rw [S1.out]⟩
              case measure => simp [intOf]; omega
          · have S0 : Hid (cntF (fun n => whoM ts n == o) x (m + 1) = u0) := by show _ = u0; rw [s0, if_neg (by simpa using e)]; omega
            have S1 : Hid (cntF (fun n => (whoM ts n == o) && isNi n) x (m + 1) = v0) := by show _ = v0; rw [s1, if_neg (by simp [e])]; omega
            have e7 : (k != o) = true := by simpa using e
            clear s0 s1 e
            go_wp2_with fail
            go_round
            case rel => exact ⟨b + 1, m + 1, rfl, hb1.out, by omega, by omega, m5b, by rw [S0.out], by rw [S1.out]⟩
            case measure => simp [intOf]; omega
        · have hmM : m = M := by have := hbm.out; have := HM.out; omega
          have HP2 := HP.out
          rw [← hmM] at HP2
          have HQ := Lib.hid HP2
          clear HP2 HP s0 s1 c0 c1 hmM
          go_wp2_with fail
          go_returns
          exact ⟨by rw [HQ.out.1, HQ.out.2]; rfl, HD.out⟩

theorem iHoursIn (a : Option Addr) (cap : Nat) (ts : List Tn) (o x y : Int) (w : World) (h : IsTn w a ts) (hn : ts.length ≤ 1048576) (hc : ts.length ≤ cap) (wo : (Lit.int .i64 o).wf = true) (wx : (Lit.int .i64 x).wf = true) (wy : (Lit.int .i64 y).wf = true) :
    Calls Try.prog 20 #[.slice a ts.length cap, .int .i64 o, .int .i64 x, .int .i64 y] w fun e w' => e = .returned (.int .i64 (hoursV ts o x y)) ∧ Below w.heap.size w w' := by
  have IC := icount a cap ts o x y w h hn
  clear h
  go_enter Try.func20, Try.ntmps20
  go_wp2_with fail
  refine IC.mono ?_
  rintro e w1 ⟨rfl, C⟩
  go_wp2_with fail
  go_ret
  exact ⟨rfl, C⟩
theorem iNightsIn (a : Option Addr) (cap : Nat) (ts : List Tn) (o x y : Int) (w : World) (h : IsTn w a ts) (hn : ts.length ≤ 1048576) (hc : ts.length ≤ cap) (wo : (Lit.int .i64 o).wf = true) (wx : (Lit.int .i64 x).wf = true) (wy : (Lit.int .i64 y).wf = true) :
    Calls Try.prog 34 #[.slice a ts.length cap, .int .i64 o, .int .i64 x, .int .i64 y] w fun e w' => e = .returned (.int .i64 (nightsV ts o x y)) ∧ Below w.heap.size w w' := by
  have IC := icount a cap ts o x y w h hn
  clear h
  go_enter Try.func34, Try.ntmps34
  go_wp2_with fail
  refine IC.mono ?_
  rintro e w1 ⟨rfl, C⟩
  go_wp2_with fail
  go_ret
  exact ⟨rfl, C⟩
end Go.Proofs.Ythkeopkehjkpeaa
