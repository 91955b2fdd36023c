/- Rotations that are read, by the program: hours, valid rotations, their periods, starts. Condition: at most 1048576 turns. -/
import Derived.Test.YtgmmdpdlekpmfaaTurnP
import Derived.Test.YtgmmdpdlekpmfaaGrA
namespace Go.Proofs.Ytgmmdpdlekpmfaa
open Go.RowKit
set_option linter.unusedSimpArgs false
set_option linter.unusedVariables false

theorem sumT_bd2 {ts : List Tn} (hz : ∀ k, k < ts.length → 0 ≤ (ts.getD k tn0).2 ∧ (ts.getD k tn0).2 ≤ 1000000) : ∀ k, k ≤ ts.length → 0 ≤ sumT (ts.take k) ∧ sumT (ts.take k) ≤ 1000000 * (k : Int) := by
  intro k
  induction k with
  | zero => intro _; exact ⟨Int.le_refl _, by show (0 : Int) ≤ 1000000 * ((0 : Nat) : Int); omega⟩
  | succ k ih =>
    intro hk
    have a := ih (by omega)
    have b := hz k (by omega)
    rw [sumT_succ (by omega)]
    omega
set_option maxHeartbeats 1000000 in
/-- impl.hoursOf -/
theorem ihours (a : Option Addr) (cap : Nat) (ts : List Tn) (w : World) (h : IsTn w a ts) (hn : ts.length ≤ 1048576) (hz : ∀ k, k < ts.length → 0 ≤ (ts.getD k tn0).2 ∧ (ts.getD k tn0).2 ≤ 1000000) :
    Calls Try.prog 101 #[.slice a ts.length cap] w fun e w' => e = .returned (.int .i64 (sumT ts)) ∧ Below w.heap.size w w' := by
  rcases h with rfl | ⟨g, o, rfl, hc⟩
  · go_enter Try.func101, Try.ntmps101
    go_wp2
    go_rounds 1
    go_ret
    exact ⟨rfl, by go_grown⟩
  · have HC := Lib.hid hc
    have HZ := Lib.hid hz
    have HB := Lib.hid (sumT_bd2 hz)
    clear hc hz
    go_enter Try.func101, Try.ntmps101
    go_wp2
    go_loopw [3, 8] (fun s i wr => ∃ k : Nat, k ≤ ts.length ∧ i = .int .i64 k ∧ s = .int .i64 (sumT (ts.take k)) ∧ Below w.heap.size w wr) (fun _ i _ => ts.length - (intOf i).toNat)
    case atStart => exact ⟨0, Nat.zero_le _, rfl, rfl, by go_grown⟩
    case round =>
      obtain ⟨k, hk, rfl, rfl, hB⟩ := hrel
      obtain ⟨b0, b1⟩ := HB.out k hk
      by_cases hlt : k < ts.length
      · obtain ⟨c0, c1⟩ := tn_at HC.out hB hlt
        have ht := sumT_succ hlt
        obtain ⟨z0, z1⟩ := HZ.out k hlt
        generalize ts.getD k tn0 = hh at c0 c1 ht z0 z1
        obtain ⟨x, y⟩ := hh
        dsimp only at c0 c1 ht z0 z1
        generalize sumT (ts.take k) = s at ht b0 b1
        have HT := Lib.hid ht
        have HBl := Lib.hid hB
        clear ht hB
        go_wp2
        go_roundw
        case rel => exact ⟨k + 1, by omega, by go_num, by rw [HT.out], HBl.out.alloc HBl.out.size _⟩
        case measure => simp [intOf]; omega
      · go_wp2
        go_ret
        exact ⟨ret_int (by rw [List.take_of_length_le (by omega)]), hB⟩

theorem vt_hz {ts : List Tn} (h : ∀ j, j < ts.length → okT ts j = true) : ∀ k, k < ts.length → 0 ≤ (ts.getD k tn0).2 ∧ (ts.getD k tn0).2 ≤ 1000000 := fun k hk => by
  have := (okT_iff ts k).1 (h k hk); omega

set_option maxHeartbeats 2000000 in
/-- impl.ValidTurns -/
theorem iVT (a : Option Addr) (cap : Nat) (ts : List Tn) (w : World) (h : IsTn w a ts) (hn : ts.length ≤ 1048576) :
    Calls Try.prog 50 #[.slice a ts.length cap] w fun e w' => e = .returned (.bool (vtB ts)) ∧ Below w.heap.size w w' := by
  by_cases h0 : ts.length < 1
  · have e0 : decide ((ts.length : Int) < 1) = true := by simp; omega
    have HN := Lib.hid (vt_no0 h0)
    clear h0
    go_enter Try.func50, Try.ntmps50
    go_wp2_with fail
    go_ret
    exact ⟨ret_bool HN.out.symm, by go_grown⟩
  have e0 : decide ((ts.length : Int) < 1) = false := by simp; omega
  by_cases h24 : 24 < ts.length
  · have e1 : decide (24 < (ts.length : Int)) = true := by simp; omega
    have HN := Lib.hid (vt_no1 h24)
    clear h24 h0
    go_enter Try.func50, Try.ntmps50
    go_wp2_with fail
    go_ret
    exact ⟨ret_bool HN.out.symm, by go_grown⟩
  have e1 : decide (24 < (ts.length : Int)) = false := by simp; omega
  have HS := Lib.hid h
  rcases h with rfl | ⟨g, o, rfl, hc⟩
  · exact absurd (by simp) h0
  have HC := Lib.hid hc
  have l1 : 1 ≤ ts.length := by omega
  have l24 : ts.length ≤ 24 := by omega
  clear hc h0 h24
  go_enter Try.func50, Try.ntmps50
  go_wp2_with fail
  go_loopw [15] (fun i wr => ∃ k : Nat, k ≤ ts.length ∧ i = .int .i64 k ∧ Hid (∀ j, j < k → okT ts j = true) ∧ Below w.heap.size w wr) (fun i _ => ts.length - (intOf i).toNat)
  case atStart => exact ⟨0, Nat.zero_le _, rfl, fun j hj => by omega, by go_grown⟩
  case round =>
    obtain ⟨k, hk, rfl, HA, hB⟩ := hrel
    by_cases hlt : k < ts.length
    · obtain ⟨c0, c1⟩ := tn_at HC.out hB hlt
      have hno : ¬ (1 ≤ (ts.getD k tn0).1 ∧ (ts.getD k tn0).1 ≤ 999 ∧ 1 ≤ (ts.getD k tn0).2 ∧ (ts.getD k tn0).2 ≤ 336) → vtB ts = false := fun e => vt_no2 hlt (okT_no e)
      have hyes : (1 ≤ (ts.getD k tn0).1 ∧ (ts.getD k tn0).1 ≤ 999 ∧ 1 ≤ (ts.getD k tn0).2 ∧ (ts.getD k tn0).2 ≤ 336) → ∀ j, j < k + 1 → okT ts j = true := fun e => rng_more HA.out ((okT_iff ts k).2 e)
      generalize ts.getD k tn0 = hh at c0 c1 hno hyes
      obtain ⟨x, y⟩ := hh
      dsimp only at c0 c1 hno hyes
      have HN := Lib.hid hno
      have HY := Lib.hid hyes
      have HB := Lib.hid hB
      clear hno hyes hB
      by_cases h2 : 1 ≤ x ∧ x ≤ 999
      · by_cases h3 : y < 1
        · have hv : Hid (vtB ts = false) := HN.out (by omega)
          have d3 : decide (y < 1) = true := decide_eq_true h3
          go_wp2_with fail
          refine (iowner_yes x _ h2.1 h2.2).mono ?_
          rintro e w' ⟨rfl, rfl⟩
          go_wp2_with fail
          go_ret
          exact ⟨ret_bool hv.out.symm, HB.out.alloc HB.out.size _⟩
        · have d3 : decide (y < 1) = false := decide_eq_false h3
          by_cases h4 : 336 < y
          · have hv : Hid (vtB ts = false) := HN.out (by omega)
            have d4 : decide (336 < y) = true := decide_eq_true h4
            go_wp2_with fail
            refine (iowner_yes x _ h2.1 h2.2).mono ?_
            rintro e w' ⟨rfl, rfl⟩
            go_wp2_with fail
            go_ret
            exact ⟨ret_bool hv.out.symm, HB.out.alloc HB.out.size _⟩
          · have d4 : decide (336 < y) = false := decide_eq_false h4
            have HY2 := Lib.hid (HY.out ⟨h2.1, h2.2, by omega, by omega⟩)
            go_wp2_with fail
            refine (iowner_yes x _ h2.1 h2.2).mono ?_
            rintro e w' ⟨rfl, rfl⟩
            go_wp2_with fail
            go_roundw
            case rel => exact ⟨k + 1, by omega, by go_num, HY2.out, HB.out.alloc HB.out.size _⟩
            case measure => simp [intOf]; omega
      · have hv : Hid (vtB ts = false) := HN.out (fun c => h2 ⟨c.1, c.2.1⟩)
        go_wp2_with fail
        refine (iowner_no x _ (by omega)).mono ?_
        rintro e w' ⟨rfl, rfl⟩
        go_wp2_with fail
        go_ret
        exact ⟨ret_bool hv.out.symm, HB.out.alloc HB.out.size _⟩
    · obtain rfl : k = ts.length := by omega
      have HZ := Lib.hid (vt_hz HA.out)
      have HE := Lib.hid (vt_end l1 l24 HA.out)
      have HB := Lib.hid hB
      clear HA hB
      go_wp2_with fail
      refine (ihours (some ⟨g, o, none⟩) cap ts _ (tn_below HS.out HB.out) hn HZ.out).mono ?_
      rintro e w2 ⟨rfl, C⟩
      go_wp2_with fail
      go_ret
      exact ⟨ret_bool HE.out.symm, bel_tr HB.out C⟩
end Go.Proofs.Ytgmmdpdlekpmfaa
