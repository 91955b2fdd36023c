/- The rank of a turn among the wishes of a trader, by the program. Condition: at most 1048576 lists. -/
import Derived.Test.YtdlbjmhjaljlfabRank
namespace Go.Proofs.Ytdlbjmhjaljlfab
open Go.RowKit
set_option linter.unusedSimpArgs false
set_option linter.unusedVariables false
set_option maxHeartbeats 4000000 in
theorem iRank (a : Option Addr) (cap : Nat) (rs : List (List Int)) (i x : Int) (w : World) (h : IsRows w a rs) (hn : rs.length ≤ 1048576) :
    Calls Try.prog 20 #[.slice a rs.length cap, .int .i64 i, .int .i64 x] w fun e w' => e = .returned (.int .i64 (rkV rs i x)) ∧ w = w' := by
  have SV := iVW a cap rs w h hn
  have HI := Lib.hid h
  clear h
  cases hv : wishB rs with
  | false =>
    have HN := Lib.hid (rk_no (i := i) (x := x) (.inl hv))
    rw [hv] at SV
    clear hv
    go_enter Try.func20, Try.ntmps20
    go_wp2_with fail
    refine SV.mono ?_
    rintro e w1 ⟨rfl, rfl⟩
    clear SV
    go_wp2_with fail
    go_ret
    exact ⟨ret_plc HN.out.symm, rfl⟩
  | true =>
    rw [hv] at SV
    by_cases hneg : i < 0
    · have e1 : decide (i < 0) = true := decide_eq_true hneg
      have HN := Lib.hid (rk_no (rs := rs) (i := i) (x := x) (.inr (by unfold inR; rw [decide_eq_false (by omega)]; rfl)))
      clear hv hneg
      go_enter Try.func20, Try.ntmps20
      go_wp2_with fail
      refine SV.mono ?_
      rintro e w1 ⟨rfl, rfl⟩
      clear SV
      go_wp2_with fail
      go_ret
      exact ⟨ret_plc HN.out.symm, rfl⟩
    · have e1 : decide (i < 0) = false := decide_eq_false hneg
      obtain ⟨k, rfl⟩ : ∃ k : Nat, i = (k : Int) := ⟨i.toNat, by omega⟩
      by_cases hk : k < rs.length
      · have HN := Lib.hid (rk_yes (x := x) hv hk)
        have e2 : decide ((rs.length : Int) ≤ (k : Int)) = false := decide_eq_false (by omega)
        have k0 : (0 : Int) ≤ (k : Int) := by omega
        have k1 : (k : Int) < (rs.length : Int) := by omega
        have hcl : IsRows w a rs := HI.out
        rcases hcl with rfl | ⟨g, o, rfl, hc⟩
        · simp at hk
        obtain ⟨A, cp, c0, hlc, hin⟩ := hc k hk
        have hr8 : (rs.getD k []).length ≤ 8 := by
          unfold wishB at hv
          rw [Bool.and_eq_true, List.all_eq_true, decide_eq_true_eq] at hv
          have := ((ordB_iff _ _).1 (hv.2 _ (rows_mem hk))).1
          omega
        obtain ⟨r, hr⟩ : ∃ r, rs.getD k [] = r := ⟨_, rfl⟩
        rw [hr] at c0 hin hlc hr8
        have HR := Lib.hid hr
        have HIN := Lib.hid hin
        clear hv hneg hc hin hr
        go_enter Try.func20, Try.ntmps20
        go_wp2_with fail
        refine SV.mono ?_
        rintro e w1 ⟨rfl, rfl⟩
        clear SV
        go_wp2_with fail
        go_loopw [27] (fun qv wr => ∃ q : Nat, q ≤ r.length ∧ qv = .int .i64 q ∧ (∀ j, j < q → r.getD j 0 ≠ x) ∧ wr = w) (fun qv _ => r.length - (intOf qv).toNat)
        case atStart => exact ⟨0, Nat.zero_le _, rfl, fun j hj => absurd hj (Nat.not_lt_zero _), rfl⟩
        case round =>
          obtain ⟨q, hq, rfl, hno, rfl⟩ := hrel
          by_cases hlt : q < r.length
          · have hin := HIN.out
            rcases hin with rfl | ⟨ga, oa, rfl, hcr⟩
            · simp at hlt
            have c1 := hcr q hlt
            obtain ⟨z, hz⟩ : ∃ z, r.getD q 0 = z := ⟨_, rfl⟩
            have HZ := Lib.hid hz
            rw [hz] at c1
            have HNO := Lib.hid hno
            clear hz hcr hno
            have q0 : (0 : Int) ≤ (q : Int) := by omega
            have q1 : (q : Int) < (r.length : Int) := by omega
            have HQ : Hid (q + 1 ≤ r.length) := hlt
            have wq : IntKind.i64.wrap ((q : Int) + 1) = (q : Int) + 1 := by rw [IntKind.wrap_i64]; omega
            by_cases e : z = x
            · have e9 : (z == x) = true := by simpa using e
              have HP := Lib.hid (plc_at hlt HNO.out (HZ.out.trans e))
              clear e
              go_wp2_with fail
              go_ret
              exact ⟨ret_plc (by rw [HN.out, HR.out, HP.out]), rfl⟩
            · have e9 : (z == x) = false := by simpa using e
              have H2 : Hid (∀ j, j < q + 1 → r.getD j 0 ≠ x) := fun j hj => by
                by_cases ej : j = q
                · subst ej; rw [HZ.out]; exact e
                · exact HNO.out j (by omega)
              clear e
              go_wp2_with fail
              go_roundw
              case rel => exact ⟨q + 1, HQ.out, by go_num, H2.out, by trivial⟩
              case measure => have hqq := HQ.out; simp [intOf]; omega
          · obtain rfl : q = r.length := by omega
            have HP := Lib.hid (plc_no hno)
            clear hno
            go_wp2_with fail
            go_ret
            exact ⟨ret_plc (by rw [HN.out, HR.out, HP.out]), rfl⟩
      · have e2 : decide ((rs.length : Int) ≤ (k : Int)) = true := decide_eq_true (by omega)
        have HN := Lib.hid (rk_no (rs := rs) (i := (k : Int)) (x := x) (.inr (by unfold inR; rw [decide_eq_false (by omega : ¬ (k : Int) < (rs.length : Int)), Bool.and_false])))
        have e3 : decide (rs.length ≤ k) = true := decide_eq_true (by omega)
        clear hv hneg
        go_enter Try.func20, Try.ntmps20
        go_wp2_with fail
        refine SV.mono ?_
        rintro e w1 ⟨rfl, rfl⟩
        clear SV
        go_wp2_with fail
        go_ret
        exact ⟨ret_plc HN.out.symm, rfl⟩
end Go.Proofs.Ytdlbjmhjaljlfab
