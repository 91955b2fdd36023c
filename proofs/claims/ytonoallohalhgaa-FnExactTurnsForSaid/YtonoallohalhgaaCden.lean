/- The common denominator of a ledger, by impl and spec. Condition: at most 1048576 holdings. -/
import Derived.Test.YtonoallohalhgaaHoldW
import Derived.Test.YtonoallohalhgaaGcd
import Derived.IntWalk
namespace Go.Proofs.Ytonoallohalhgaa
open Go.RowKit

/-- the common denominator, -1 if there is none -/
def cdR (hs : List Hd) : Int := if vlR hs && decide (lcmTo (ledOf hs) hs.length ≤ 1000000) then (lcmTo (ledOf hs) hs.length : Int) else -1
theorem cd_no1 {hs : List Hd} (h : vlR hs = false) : cdR hs = -1 := by unfold cdR; rw [h]; rfl
theorem cd_no2 {hs : List Hd} {k : Nat} (hk : k ≤ hs.length) (h : 1000000 < lcmTo (ledOf hs) k) : cdR hs = -1 := by
  have := lcm_mono' (ledOf hs) (hs.length - k) k
  rw [show k + (hs.length - k) = hs.length from by omega] at this
  unfold cdR
  rw [decide_eq_false (by omega), Bool.and_false]; rfl
theorem cd_yes {hs : List Hd} (h : vlR hs = true) (h2 : lcmTo (ledOf hs) hs.length ≤ 1000000) : cdR hs = (lcmTo (ledOf hs) hs.length : Int) := by
  unfold cdR; rw [h, decide_eq_true h2]; rfl
theorem lcm_div (n d : Nat) (_hn : 0 < n) : ((n : Int) / (Int.gcd (n : Int) (d : Int) : Int)) * (d : Int) = (Nat.lcm n d : Int) := by
  have hg : Int.gcd (n : Int) (d : Int) = Nat.gcd n d := rfl
  rw [hg]
  have hd : Nat.gcd n d ∣ n := Nat.gcd_dvd_left n d
  have e : Nat.lcm n d = n / Nat.gcd n d * d := by
    unfold Nat.lcm
    rw [Nat.div_mul_right_comm hd]
  rw [e, Int.natCast_mul, Int.natCast_ediv]
/-- the next common denominator -/
theorem cd_step {hs : List Hd} (hv : vlR hs = true) {k : Nat} (hk : k < hs.length) (hn : lcmTo (ledOf hs) k ≤ 1000000) :
    1 ≤ (hs.getD k hd0).2.2 ∧ (hs.getD k hd0).2.2 ≤ 10000 ∧ (lcmTo (ledOf hs) k : Int) / (Int.gcd (lcmTo (ledOf hs) k : Int) (hs.getD k hd0).2.2 : Int) * (hs.getD k hd0).2.2 = (lcmTo (ledOf hs) (k + 1) : Int) ∧ 0 < (Int.gcd (lcmTo (ledOf hs) k : Int) (hs.getD k hd0).2.2 : Int) ∧ 0 ≤ (lcmTo (ledOf hs) k : Int) / (Int.gcd (lcmTo (ledOf hs) k : Int) (hs.getD k hd0).2.2 : Int) ∧ (lcmTo (ledOf hs) k : Int) / (Int.gcd (lcmTo (ledOf hs) k : Int) (hs.getD k hd0).2.2 : Int) ≤ 1000000 ∧ (lcmTo (ledOf hs) (k + 1) : Int) ≤ 10000000000 := by
  obtain ⟨he, hV⟩ := vlR_is hv
  have hkl : k < (ledOf hs).length := by rw [led_len]; exact hk
  have hg : (hs.getD k hd0).2.2 = (((ledOf hs).getD k (0, 0)).2.den : Int) := by
    conv => lhs; rw [← he]
    rw [raw_get _ hkl]; rfl
  have hfr := hV.fr _ (List.getElem_mem hkl)
  rw [← getD_lt _ hkl (0, 0)] at hfr
  have hb := (frB_iff _).1 hfr
  have hdp := den_pos ((ledOf hs).getD k (0, 0)).2
  have hlp := lcm_pos (ledOf hs) k
  rw [hg]
  have hgp : 0 < (Int.gcd (lcmTo (ledOf hs) k : Int) (((ledOf hs).getD k (0, 0)).2.den : Int) : Int) := by
    have : Int.gcd (lcmTo (ledOf hs) k : Int) (((ledOf hs).getD k (0, 0)).2.den : Int) ≠ 0 := fun c => by
      have := Int.gcd_eq_zero_iff.1 c
      omega
    omega
  have hq0 : 0 ≤ (lcmTo (ledOf hs) k : Int) / (Int.gcd (lcmTo (ledOf hs) k : Int) (((ledOf hs).getD k (0, 0)).2.den : Int) : Int) := Int.ediv_nonneg (by omega) (by omega)
  have hq1 : (lcmTo (ledOf hs) k : Int) / (Int.gcd (lcmTo (ledOf hs) k : Int) (((ledOf hs).getD k (0, 0)).2.den : Int) : Int) ≤ 1000000 := Int.le_trans (Int.ediv_le_self _ (by omega)) (by omega)
  have hs' := lcm_div (lcmTo (ledOf hs) k) ((ledOf hs).getD k (0, 0)).2.den hlp
  refine ⟨hdp, hb.2.2, ?_, hgp, hq0, hq1, ?_⟩
  · rw [hs', lcm_succ]
  · rw [lcm_succ, ← hs']
    exact Int.le_trans (Int.mul_le_mul hq1 hb.2.2 (by omega) (by omega)) (by decide)

set_option maxHeartbeats 1000000 in
theorem iCD (a : Option Addr) (cap : Nat) (hs : List Hd) (w : World) (h : IsHs w a hs) (hn : hs.length ≤ 1048576) :
    Calls Try.prog 43 #[.slice a hs.length cap] w fun e w' => e = .returned (.int .i64 (cdR hs)) ∧ Below w.heap.size w w' := by
  have CV := iVL a cap hs w h hn
  cases hv : vlR hs with
  | false =>
    rw [hv] at CV
    have HN := Lib.hid (cd_no1 hv)
    clear hv
    go_enter Try.func43, Try.ntmps43
    go_wp2_with fail
    refine CV.mono ?_
    rintro e w1 ⟨rfl, hb⟩
    go_wp2_with fail
    go_ret
    exact ⟨ret_int HN.out.symm, hb⟩
  | true =>
    rw [hv] at CV
    have HV := Lib.hid hv
    clear hv
    rcases h with rfl | ⟨g, off, rfl, hc⟩
    · exact absurd (vlR_is HV.out).2.one (by decide)
    · have HC := Lib.hid hc
      clear hc
      go_enter Try.func43, Try.ntmps43
      go_wp2_with fail
      refine CV.mono ?_
      rintro e w1 ⟨rfl, hb⟩
      have HB1 := Lib.hid hb
      clear CV hb
      go_wp2_with fail
      go_loopw [3, 11] (fun n i wr => ∃ k : Nat, k ≤ hs.length ∧ i = .int .i64 k ∧ n = .int .i64 (lcmTo (ledOf hs) k : Int) ∧ Hid (lcmTo (ledOf hs) k ≤ 1000000) ∧ Below w.heap.size w wr) (fun _ i _ => hs.length - (intOf i).toNat)
      case atStart => exact ⟨0, Nat.zero_le _, rfl, rfl, (by show (1 : Nat) ≤ 1000000; omega), HB1.out⟩
      case round =>
        obtain ⟨k, hk, rfl, rfl, HL, hB⟩ := hrel
        by_cases hlt : k < hs.length
        · obtain ⟨c0, c1, c2⟩ := cells_at HC.out hB hlt
          obtain ⟨d0, d1, d2, d3, d4, d5, d6⟩ := cd_step HV.out hlt HL.out
          have hno : 1000000 < lcmTo (ledOf hs) (k + 1) → cdR hs = -1 := fun c => cd_no2 (by omega) c
          have hpos := lcm_pos (ledOf hs) k
          have hle := HL.out
          have hnn : (0 : Int) ≤ (lcmTo (ledOf hs) (k + 1) : Int) := by omega
          have hyes : (lcmTo (ledOf hs) (k + 1) : Int) ≤ 1000000 → lcmTo (ledOf hs) (k + 1) ≤ 1000000 := fun c => by omega
          have hno2 : 1000000 < (lcmTo (ledOf hs) (k + 1) : Int) → cdR hs = -1 := fun c => hno (by omega)
          generalize hs.getD k hd0 = hh at c0 c1 c2 d0 d1 d2 d3 d4 d5
          obtain ⟨x, n, d⟩ := hh
          dsimp only at c0 c1 c2 d0 d1 d2 d3 d4 d5
          have hcm : (1 : Int) ≤ (lcmTo (ledOf hs) k : Int) := by omega
          have hcm2 : (lcmTo (ledOf hs) k : Int) ≤ 1000000 := by omega
          generalize (lcmTo (ledOf hs) k : Int) = cm at d2 d3 d4 d5 hcm hcm2
          obtain ⟨nx, hnx⟩ : ∃ nx, nx = (lcmTo (ledOf hs) (k + 1) : Int) := ⟨_, rfl⟩
          rw [← hnx] at d2 d6 hyes hno2 hnn
          have KG := Lib.hid (fun (W : World) (j : Nat) => Calls.quiet_of_same (w := W) (n := j) ((igcd cm d _ (by omega) (by omega) (by omega) (by omega)).mono (fun _ _ h => ⟨h.1, h.2.symm⟩)))
          have hg0 : ((Int.gcd cm d : Int) == 0) = false := by simp; omega
          have D2 := Lib.hid d2
          have HNX := Lib.hid hnx
          have HB := Lib.hid hB
          have HNO := Lib.hid hno2
          have HYES := Lib.hid hyes
          have hw : IntKind.i64.wrap (cm / (Int.gcd cm d : Int) * d) = nx := by rw [d2]; exact IntWalk.i64_in _ (by omega)
          clear hno hnx hB hno2 hyes hpos hle d2
          go_wp2_with fail
          go_quiet (first | (go_at_call_of 53 (Value.int .i64 cm); exact KG.out _ _))
          by_cases hb : 1000000 < nx
          · go_wp2_with fail
            go_ret
            exact ⟨ret_int (HNO.out hb).symm, below_drewN (HB.out.alloc HB.out.size _) _⟩
          · go_wp2_with fail
            go_roundw
            case rel => exact ⟨k + 1, by omega, by go_num, by rw [HNX.out], HYES.out (by omega), below_drewN (HB.out.alloc HB.out.size _) _⟩
            case measure => simp [intOf]; omega
        · obtain rfl : hs.length = k := by omega
          have HN := Lib.hid (cd_yes HV.out HL.out)
          go_wp2_with fail
          go_ret
          exact ⟨ret_int HN.out.symm, hB⟩

/-- what spec.commonDen leaves -/
def SDen (w : World) (hs : List Hd) (e : Ending) (w' : World) : Prop := ∃ v : Int, e = .returned (.int .i64 v) ∧ (v ≤ 1000000 → cdR hs = v) ∧ (1000000 < v → cdR hs = -1) ∧ 0 ≤ v ∧ v ≤ 10000000000 ∧ Below w.heap.size w w'
set_option maxHeartbeats 1000000 in
theorem scd (a : Option Addr) (cap : Nat) (hs : List Hd) (w : World) (h : IsHs w a hs) (hn : hs.length ≤ 1048576) (hv : vlR hs = true) :
    Calls Try.prog 38 #[.slice a hs.length cap] w (SDen w hs) := by
  have HV := Lib.hid hv
  clear hv
  rcases h with rfl | ⟨g, off, rfl, hc⟩
  · exact absurd (vlR_is HV.out).2.one (by decide)
  · have HC := Lib.hid hc
    clear hc
    go_enter Try.func38, Try.ntmps38
    go_wp2_with fail
    go_loopw [3, 4] (fun n i wr => ∃ k : Nat, k ≤ hs.length ∧ i = .int .i64 k ∧ n = .int .i64 (lcmTo (ledOf hs) k : Int) ∧ Hid (lcmTo (ledOf hs) k ≤ 10000000000) ∧ Below w.heap.size w wr) (fun _ i _ => hs.length - (intOf i).toNat)
    case atStart => exact ⟨0, Nat.zero_le _, rfl, rfl, (by show (1 : Nat) ≤ 10000000000; omega), by go_grown⟩
    case round =>
      obtain ⟨k, hk, rfl, rfl, HL, hB⟩ := hrel
      have hle := HL.out
      by_cases hlt : k < hs.length
      · by_cases hbig : 1000000 < lcmTo (ledOf hs) k
        · have HN := Lib.hid (cd_no2 hk hbig)
          obtain ⟨cm, hcm⟩ : ∃ cm, cm = (lcmTo (ledOf hs) k : Int) := ⟨_, rfl⟩
          rw [← hcm]
          have q1 : 1000000 < cm := by omega
          have q2 : cm ≤ 10000000000 := by omega
          have q3 : decide (cm ≤ 1000000) = false := by simp; omega
          clear hcm hle hbig
          go_wp2_with fail
          go_ret
          exact ⟨cm, rfl, (fun c => by omega), (fun _ => HN.out), by omega, q2, hB⟩
        · obtain ⟨c0, c1, c2⟩ := cells_at HC.out hB hlt
          obtain ⟨d0, d1, d2, d3, d4, d5, d6⟩ := cd_step HV.out hlt (by omega)
          have hpos := lcm_pos (ledOf hs) k
          have hnn : (0 : Int) ≤ (lcmTo (ledOf hs) (k + 1) : Int) := by omega
          have hyes : (lcmTo (ledOf hs) (k + 1) : Int) ≤ 10000000000 → lcmTo (ledOf hs) (k + 1) ≤ 10000000000 := fun c => by omega
          generalize hs.getD k hd0 = hh at c0 c1 c2 d0 d1 d2 d3 d4 d5
          obtain ⟨x, n, d⟩ := hh
          dsimp only at c0 c1 c2 d0 d1 d2 d3 d4 d5
          have hcm : (1 : Int) ≤ (lcmTo (ledOf hs) k : Int) := by omega
          have hcm2 : (lcmTo (ledOf hs) k : Int) ≤ 1000000 := by omega
          clear hle hbig hpos
          generalize (lcmTo (ledOf hs) k : Int) = cm at d2 d3 d4 d5 hcm hcm2
          obtain ⟨nx, hnx⟩ : ∃ nx, nx = (lcmTo (ledOf hs) (k + 1) : Int) := ⟨_, rfl⟩
          rw [← hnx] at d2 d6 hyes hnn
          have KG := Lib.hid (fun (W : World) (j : Nat) => Calls.quiet_of_same (w := W) (n := j) ((sgcd cm d _ (by omega) (by omega) (by omega) (by omega)).mono (fun _ _ h => ⟨h.1, h.2.symm⟩)))
          have hg0 : ((Int.gcd cm d : Int) == 0) = false := by simp; omega
          have D2 := Lib.hid d2
          have HNX := Lib.hid hnx
          have HB := Lib.hid hB
          have HYES := Lib.hid hyes
          have i0 : (0 : Int) ≤ (k : Int) := by omega
          have i1 : (k : Int) < (hs.length : Int) := by omega
          have hw : IntKind.i64.wrap (cm / (Int.gcd cm d : Int) * d) = nx := by rw [d2]; exact IntWalk.i64_in _ (by omega)
          clear hnx hB hyes d2
          go_wp2_with fail
          go_quiet (first | (go_at_call_of 58 (Value.int .i64 cm); exact KG.out _ _))
          go_wp2_with fail
          go_roundw
          case rel => exact ⟨k + 1, by omega, by go_num, by rw [HNX.out], HYES.out d6, below_drewN HB.out _⟩
          case measure => simp [intOf]; omega
      · obtain rfl : hs.length = k := by omega
        have h1 : lcmTo (ledOf hs) hs.length ≤ 1000000 → cdR hs = (lcmTo (ledOf hs) hs.length : Int) := fun c => cd_yes HV.out c
        have h2 : 1000000 < lcmTo (ledOf hs) hs.length → cdR hs = -1 := fun c => cd_no2 (Nat.le_refl _) c
        have H1 : Hid ((lcmTo (ledOf hs) hs.length : Int) ≤ 1000000 → cdR hs = (lcmTo (ledOf hs) hs.length : Int)) := fun c => h1 (by omega)
        have H2 : Hid (1000000 < (lcmTo (ledOf hs) hs.length : Int) → cdR hs = -1) := fun c => h2 (by omega)
        have q0 : (0 : Int) ≤ (lcmTo (ledOf hs) hs.length : Int) := by omega
        have q2 : (lcmTo (ledOf hs) hs.length : Int) ≤ 10000000000 := by omega
        clear h1 h2 hle
        generalize (lcmTo (ledOf hs) hs.length : Int) = cm at q0 q2 H1 H2
        go_wp2_with fail
        go_ret
        exact ⟨cm, rfl, H1.out, H2.out, q0, q2, hB⟩
end Go.Proofs.Ytonoallohalhgaa
