/- The program's answers on rotations: whose turn it is, the next hour, hours and nights. Condition: at most 1048576 turns. -/
import Derived.Test.YthkeopkehjkpeaaTurnW
namespace Go.Proofs.Ythkeopkehjkpeaa
open Go.RowKit
set_option linter.unusedSimpArgs false
set_option linter.unusedVariables false

set_option maxHeartbeats 1000000 in
theorem iWhoAt (a : Option Addr) (cap : Nat) (ts : List Tn) (t : Int) (w : World) (h : IsTn w a ts) (hn : ts.length ≤ 1048576) (hc : ts.length ≤ cap) (wt : (Lit.int .i64 t).wf = true) :
    Calls Try.prog 24 #[.slice a ts.length cap, .int .i64 t] w fun e w' => e = .returned (.int .i64 (whoV ts t)) ∧ Below w.heap.size w w' := by
  have IV := iVT a cap ts w h hn
  have H := Lib.hid h
  cases hv : vtB ts with
  | false =>
    have HP : Hid (whoV ts t = -1) := by show whoV ts t = -1; unfold whoV; rw [hv]; rfl
    rw [hv] at IV
    clear hv h
    go_enter Try.func24, Try.ntmps24
    go_wp2_with fail
    refine IV.mono ?_
    rintro e w1 ⟨rfl, C⟩
    go_wp2_with fail
    go_ret
    exact ⟨ret_int HP.out.symm, C⟩
  | true =>
    obtain ⟨l1, l2, ho, s0, s1⟩ := vt_is hv
    obtain ⟨N, hN⟩ : ∃ N, (sumT ts).toNat = N := ⟨_, rfl⟩
    have IO := fun W hW => iownersN a cap ts W hW hv N hN
    have HN := Lib.hid hN
    have N1 : 1 ≤ N := by omega
    have N2 : N ≤ 336 := by omega
    have HS := Lib.hid s0
    rw [hv] at IV
    cases hb : (decide (0 ≤ t) && decide (t ≤ 5000)) with
    | false =>
      have HP : Hid (whoV ts t = -1) := by show whoV ts t = -1; unfold whoV; rw [hv, hb]; rfl
      have ht : t < 0 ∨ 5000 < t := by
        have : ¬ (0 ≤ t ∧ t ≤ 5000) := fun c => by rw [decide_eq_true c.1, decide_eq_true c.2] at hb; cases hb
        omega
      clear hv h hb ho hN s0 s1
      go_enter Try.func24, Try.ntmps24
      go_wp2_with fail
      refine IV.mono ?_
      rintro e w1 ⟨rfl, C⟩
      go_wp2_with fail
      refine (itime_no t _ ht).mono ?_
      rintro e w' ⟨rfl, rfl⟩
      go_wp2_with fail
      go_ret
      exact ⟨ret_int HP.out.symm, C⟩
    | true =>
      have HP : Hid (whoV ts t = whoM ts t) := by show whoV ts t = _; unfold whoV; rw [hv, hb]; rfl
      simp only [Bool.and_eq_true, decide_eq_true_eq] at hb
      obtain ⟨t0, t1⟩ := hb
      clear hv h ho hN s0 s1
      go_enter Try.func24, Try.ntmps24
      go_wp2_with fail
      refine IV.mono ?_
      rintro e w1 ⟨rfl, C⟩
      have HB := Lib.hid C
      clear C
      go_wp2_with fail
      refine (itime_yes t _ t0 t1).mono ?_
      rintro e w' ⟨rfl, rfl⟩
      go_wp2_with fail
      refine (IO _ (tn_below H.out HB.out)).mono ?_
      rintro e w2 ⟨g, rfl, R, D⟩
      have HD := Lib.hid (bel_tr HB.out D)
      obtain ⟨q, hq, hqN, hcell⟩ := who_cell R HN.out HS.out t0
      have i0 : (0 : Int) ≤ (q : Int) := by omega
      have i1 : (q : Int) < (N : Int) := by omega
      have n0 : (0 : Int) < (N : Int) := by omega
      clear D R
      go_wp2_with fail
      go_ret
      exact ⟨ret_int HP.out.symm, HD.out⟩

set_option maxHeartbeats 2000000 in
theorem iNextHour (a : Option Addr) (cap : Nat) (ts : List Tn) (o t : Int) (w : World) (h : IsTn w a ts) (hn : ts.length ≤ 1048576) (hc : ts.length ≤ cap) (wo : (Lit.int .i64 o).wf = true) (wt : (Lit.int .i64 t).wf = true) :
    Calls Try.prog 29 #[.slice a ts.length cap, .int .i64 o, .int .i64 t] w fun e w' => e = .returned (.int .i64 (nextV ts o t)) ∧ Below w.heap.size w w' := by
  have IV := iVT a cap ts w h hn
  have H := Lib.hid h
  cases hv : vtB ts with
  | false =>
    have HP : Hid (nextV ts o t = -1) := by show nextV ts o t = -1; unfold nextV; rw [hv]; rfl
    rw [hv] at IV
    clear hv h
    go_enter Try.func29, Try.ntmps29
    go_wp2_with fail
    refine IV.mono ?_
    rintro e w1 ⟨rfl, C⟩
    go_wp2_with fail
    go_ret
    exact ⟨ret_int HP.out.symm, C⟩
  | true =>
    obtain ⟨l1, l2, ho, s0, s1⟩ := vt_is hv
    obtain ⟨N, hN⟩ : ∃ N, (sumT ts).toNat = N := ⟨_, rfl⟩
    have IO := fun W hW => iownersN a cap ts W hW hv N hN
    have HN := Lib.hid hN
    have N1 : 1 ≤ N := by omega
    have N2 : N ≤ 336 := by omega
    have HS := Lib.hid s0
    rw [hv] at IV
    cases hb : (decide (0 ≤ t) && decide (t ≤ 5000)) with
    | false =>
      have HP : Hid (nextV ts o t = -1) := by show nextV ts o t = -1; unfold nextV; rw [hv, hb]; rfl
      have ht : t < 0 ∨ 5000 < t := by
        have : ¬ (0 ≤ t ∧ t ≤ 5000) := fun c => by rw [decide_eq_true c.1, decide_eq_true c.2] at hb; cases hb
        omega
      clear hv h hb ho hN s0 s1
      go_enter Try.func29, Try.ntmps29
      go_wp2_with fail
      refine IV.mono ?_
      rintro e w1 ⟨rfl, C⟩
      go_wp2_with fail
      refine (itime_no t _ ht).mono ?_
      rintro e w' ⟨rfl, rfl⟩
      go_wp2_with fail
      go_ret
      exact ⟨ret_int HP.out.symm, C⟩
    | true =>
      obtain ⟨F, hF⟩ : ∃ F, fuelT ts t = F := ⟨_, rfl⟩
      have HP : Hid (nextV ts o t = nxtF (fun n => whoM ts n == o) F t) := by show nextV ts o t = _; unfold nextV; rw [hv, hb, hF]; rfl
      simp only [Bool.and_eq_true, decide_eq_true_eq] at hb
      obtain ⟨t0, t1⟩ := hb
      have F1 : (F : Int) ≤ (N : Int) ∧ (F : Int) ≤ 5001 - t ∧ ((N : Int) ≤ F ∨ 5001 - t ≤ F) := by
        unfold fuelT at hF; omega
      clear hv h ho hN s0 s1 hF
      go_enter Try.func29, Try.ntmps29
      go_wp2_with fail
      refine IV.mono ?_
      rintro e w1 ⟨rfl, C⟩
      have HB := Lib.hid C
      clear C
      go_wp2_with fail
      refine (itime_yes t _ t0 t1).mono ?_
      rintro e w' ⟨rfl, rfl⟩
      go_wp2_with fail
      refine (IO _ (tn_below H.out HB.out)).mono ?_
      rintro e w2 ⟨g, rfl, R, D⟩
      have HD := Lib.hid (bel_tr HB.out D)
      have HR := Lib.hid R
      clear D R
      go_wp2_with fail
      go_loop [8] (fun x => ∃ (b : Int) (m : Nat), x = .int .i64 b ∧ b + (m : Int) = t + F ∧ t ≤ b ∧ Hid (nextV ts o t = nxtF (fun n => whoM ts n == o) m b)) (fun x => (6000 - intOf x).toNat)
      case atStart => exact ⟨t, F, rfl, rfl, Int.le_refl _, HP.out⟩
      case round =>
        obtain ⟨b, m, rfl, hbm, htb, HV⟩ := hrel
        obtain ⟨q, hq, hqN, hcell⟩ := who_cell HR.out HN.out HS.out (show 0 ≤ b by omega)
        have i0 : (0 : Int) ≤ (q : Int) := by omega
        have i1 : (q : Int) < (N : Int) := by omega
        have n0 : (0 : Int) < (N : Int) := by omega
        have b0 : 0 ≤ b := by omega
        cases m with
        | zero =>
          by_cases h5 : b ≤ 5000
          · have e5 : decide (b ≤ 5000) = true := decide_eq_true h5
            have e6 : decide (b < t + (N : Int)) = false := decide_eq_false (by omega)
            clear hbm F1
            go_wp2_with fail
            go_ret
            exact ⟨ret_int HV.out.symm, HD.out⟩
          · have e5 : decide (b ≤ 5000) = false := decide_eq_false h5
            clear hbm F1
            go_wp2_with fail
            go_ret
            exact ⟨ret_int HV.out.symm, HD.out⟩
        | succ m =>
          have e5 : decide (b ≤ 5000) = true := decide_eq_true (by omega)
          have e6 : decide (b < t + (N : Int)) = true := decide_eq_true (by omega)
          have bm : b < 6000 := by omega
          have hbm2 : b + 1 + (m : Int) = t + F := by omega
          have HM := Lib.hid hbm2
          have HV2 := HV.out
          rw [nxt_succ] at HV2
          generalize whoM ts b = u at hcell HV2
          by_cases e : u = o
          · have HW := Lib.hid (HV2.trans (if_pos (by simpa using e)))
            subst e
            clear HV HV2 hbm hbm2 F1
            go_wp2_with fail
            go_ret
            exact ⟨ret_int HW.out.symm, HD.out⟩
          · have HW := Lib.hid (HV2.trans (if_neg (by simpa using e)))
            have e7 : (u == o) = false := by simpa using e
            clear HV HV2 hbm hbm2 F1 e
            go_wp2_with fail
            go_round
            case rel => exact ⟨b + 1, m, rfl, HM.out, by omega, HW.out⟩
            case measure => simp [intOf]; omega
end Go.Proofs.Ythkeopkehjkpeaa
