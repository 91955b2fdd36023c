/- The program's answers on rotations: whose turn it is, the next hour, hours and nights. Condition: at most 1048576 turns. -/
import Derived.Test.YtgmmdpdlekpmfaaTurnW
namespace Go.Proofs.Ytgmmdpdlekpmfaa
open Go.RowKit
set_option linter.unusedSimpArgs false
set_option linter.unusedVariables false

set_option maxHeartbeats 1000000 in
theorem iWhoAt (a : Option Addr) (cap : Nat) (ts : List Tn) (t : Int) (w : World) (h : IsTn w a ts) (hn : ts.length ≤ 1048576) (hc : ts.length ≤ cap) (wt : (Lit.int .i64 t).wf = true) :
    Calls Try.prog 24 #[.slice a ts.length cap, .int .i64 t] w fun e w' => e = .returned (.int .i64 (whoV ts t)) ∧ Below w.heap.size w w' := by
  have IV := iVT a cap ts w h hn
  have H := Lib.hid h
  cases hv : vtB ts with
  | false =>
    have HP : Hid (whoV ts t = -1) := by show whoV ts t = -1; unfold whoV; rw [hv]; rfl
    rw [hv] at IV
    clear hv h
    go_enter Try.func24, Try.ntmps24
    go_wp2_with fail
    refine IV.mono ?_
    rintro e w1 ⟨rfl, C⟩
    go_wp2_with fail
    go_ret
    exact ⟨ret_int HP.out.symm, C⟩
  | true =>
    obtain ⟨l1, l2, ho, s0, s1⟩ := vt_is hv
    obtain ⟨N, hN⟩ : ∃ N, (sumT ts).toNat = N := ⟨_, rfl⟩
    have IO := fun W hW => iownersN a cap ts W hW hv N hN
    have HN := Lib.hid hN
    have N1 : 1 ≤ N := by omega
    have N2 : N ≤ 336 := by omega
    have HS := Lib.hid s0
    rw [hv] at IV
    cases hb : (decide (0 ≤ t) && decide (t ≤ 5000)) with
    | false =>
      have HP : Hid (whoV ts t = -1) := by show whoV ts t = -1; unfold whoV; rw [hv, hb]; rfl
      have ht : t < 0 ∨ 5000 < t := by
        have : ¬ (0 ≤ t ∧ t ≤ 5000) := fun c => by rw [decide_eq_true c.1, decide_eq_true c.2] at hb; cases hb
        omega
      clear hv h hb ho hN s0 s1
      go_enter Try.func24, Try.ntmps24
      go_wp2_with fail
      refine IV.mono ?_
      rintro e w1 ⟨rfl, C⟩
      go_wp2_with fail
      refine (itime_no t _ ht).mono ?_
      rintro e w' ⟨rfl, rfl⟩
      go_wp2_with fail
      go_ret
      exact ⟨ret_int HP.out.symm, C⟩
    | true =>
      have HP : Hid (whoV ts t = whoM ts t) := by show whoV ts t = _; unfold whoV; rw [hv, hb]; rfl
      simp only [Bool.and_eq_true, decide_eq_true_eq] at hb
      obtain ⟨t0, t1⟩ := hb
      clear hv h ho hN s0 s1
      go_enter Try.func24, Try.ntmps24
      go_wp2_with fail
      refine IV.mono ?_
      rintro e w1 ⟨rfl, C⟩
      have HB := Lib.hid C
      clear C
      go_wp2_with fail
      refine (itime_yes t _ t0 t1).mono ?_
      rintro e w' ⟨rfl, rfl⟩
      go_wp2_with fail
      refine (IO _ (tn_below H.out HB.out)).mono ?_
      rintro e w2 ⟨g, rfl, R, D⟩
      have HD := Lib.hid (bel_tr HB.out D)
      obtain ⟨q, hq, hqN, hcell⟩ := who_cell R HN.out HS.out t0
      have i0 : (0 : Int) ≤ (q : Int) := by omega
      have i1 : (q : Int) < (N : Int) := by omega
      have n0 : (0 : Int) < (N : Int) := by omega
      clear D R
      go_wp2_with fail
      go_ret
      exact ⟨ret_int HP.out.symm, HD.out⟩

end Go.Proofs.Ytgmmdpdlekpmfaa
