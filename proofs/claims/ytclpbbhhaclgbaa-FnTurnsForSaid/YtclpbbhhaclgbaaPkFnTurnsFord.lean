/- Contracts and facts of functions of this program, in build order. Conditions: those stated in each. -/
import Derived.Test.YtclpbbhhaclgbaaPkFnTurnsForc
import Derived.IntWalk
import Derived.Deep.RegionHeld3
import Derived.Deep.DeepCutAuto
import Derived.Maps.AppendAt
import Derived.Laws.OwnMore
import Derived.WalkLawsBesides
import Derived.Deep.Slices
import Derived.ChangeSame
import Derived.ChangeArms
import Derived.ProofKit
namespace Go.Proofs.Ytclpbbhhaclgbaa
open Go.RowKit

/-- the common denominator, -1 if there is none -/
def cdR (hs : List Hd) : Int := if vlR hs && decide (lcmTo (ledOf hs) hs.length ≤ 1000000) then (lcmTo (ledOf hs) hs.length : Int) else -1
theorem cd_no1 {hs : List Hd} (h : vlR hs = false) : cdR hs = -1 := by unfold cdR; rw [h]; rfl
theorem cd_no2 {hs : List Hd} {k : Nat} (hk : k ≤ hs.length) (h : 1000000 < lcmTo (ledOf hs) k) : cdR hs = -1 := by
  have := lcm_mono' (ledOf hs) (hs.length - k) k
  rw [show k + (hs.length - k) = hs.length from by omega] at this
  unfold cdR
  rw [decide_eq_false (by omega), Bool.and_false]; rfl
theorem cd_yes {hs : List Hd} (h : vlR hs = true) (h2 : lcmTo (ledOf hs) hs.length ≤ 1000000) : cdR hs = (lcmTo (ledOf hs) hs.length : Int) := by
  unfold cdR; rw [h, decide_eq_true h2]; rfl
theorem lcm_div (n d : Nat) (_hn : 0 < n) : ((n : Int) / (Int.gcd (n : Int) (d : Int) : Int)) * (d : Int) = (Nat.lcm n d : Int) := by
  have hg : Int.gcd (n : Int) (d : Int) = Nat.gcd n d := rfl
  rw [hg]
  have hd : Nat.gcd n d ∣ n := Nat.gcd_dvd_left n d
  have e : Nat.lcm n d = n / Nat.gcd n d * d := by
    unfold Nat.lcm
    rw [Nat.div_mul_right_comm hd]
  rw [e, Int.natCast_mul, Int.natCast_ediv]
/-- the next common denominator -/
theorem cd_step {hs : List Hd} (hv : vlR hs = true) {k : Nat} (hk : k < hs.length) (hn : lcmTo (ledOf hs) k ≤ 1000000) :
    1 ≤ (hs.getD k hd0).2.2 ∧ (hs.getD k hd0).2.2 ≤ 10000 ∧ (lcmTo (ledOf hs) k : Int) / (Int.gcd (lcmTo (ledOf hs) k : Int) (hs.getD k hd0).2.2 : Int) * (hs.getD k hd0).2.2 = (lcmTo (ledOf hs) (k + 1) : Int) ∧ 0 < (Int.gcd (lcmTo (ledOf hs) k : Int) (hs.getD k hd0).2.2 : Int) ∧ 0 ≤ (lcmTo (ledOf hs) k : Int) / (Int.gcd (lcmTo (ledOf hs) k : Int) (hs.getD k hd0).2.2 : Int) ∧ (lcmTo (ledOf hs) k : Int) / (Int.gcd (lcmTo (ledOf hs) k : Int) (hs.getD k hd0).2.2 : Int) ≤ 1000000 ∧ (lcmTo (ledOf hs) (k + 1) : Int) ≤ 10000000000 := by
  obtain ⟨he, hV⟩ := vlR_is hv
  have hkl : k < (ledOf hs).length := by rw [led_len]; exact hk
  have hg : (hs.getD k hd0).2.2 = (((ledOf hs).getD k (0, 0)).2.den : Int) := by
    conv => lhs; rw [← he]
    rw [raw_get _ hkl]; rfl
  have hfr := hV.fr _ (List.getElem_mem hkl)
  rw [← getD_lt _ hkl (0, 0)] at hfr
  have hb := (frB_iff _).1 hfr
  have hdp := den_pos ((ledOf hs).getD k (0, 0)).2
  have hlp := lcm_pos (ledOf hs) k
  rw [hg]
  have hgp : 0 < (Int.gcd (lcmTo (ledOf hs) k : Int) (((ledOf hs).getD k (0, 0)).2.den : Int) : Int) := by
    have : Int.gcd (lcmTo (ledOf hs) k : Int) (((ledOf hs).getD k (0, 0)).2.den : Int) ≠ 0 := fun c => by
      have := Int.gcd_eq_zero_iff.1 c
      omega
    omega
  have hq0 : 0 ≤ (lcmTo (ledOf hs) k : Int) / (Int.gcd (lcmTo (ledOf hs) k : Int) (((ledOf hs).getD k (0, 0)).2.den : Int) : Int) := Int.ediv_nonneg (by omega) (by omega)
  have hq1 : (lcmTo (ledOf hs) k : Int) / (Int.gcd (lcmTo (ledOf hs) k : Int) (((ledOf hs).getD k (0, 0)).2.den : Int) : Int) ≤ 1000000 := Int.le_trans (Int.ediv_le_self _ (by omega)) (by omega)
  have hs' := lcm_div (lcmTo (ledOf hs) k) ((ledOf hs).getD k (0, 0)).2.den hlp
  refine ⟨hdp, hb.2.2, ?_, hgp, hq0, hq1, ?_⟩
  · rw [hs', lcm_succ]
  · rw [lcm_succ, ← hs']
    exact Int.le_trans (Int.mul_le_mul hq1 hb.2.2 (by omega) (by omega)) (by decide)

set_option maxHeartbeats 1000000 in
theorem iCD (a : Option Addr) (cap : Nat) (hs : List Hd) (w : World) (h : IsHs w a hs) (hn : hs.length ≤ 1048576) :
    Calls Try.prog 98 #[.slice a hs.length cap] w fun e w' => e = .returned (.int .i64 (cdR hs)) ∧ Below w.heap.size w w' := by
  have CV := iVL a cap hs w h hn
  cases hv : vlR hs with
  | false =>
    rw [hv] at CV
    have HN := Lib.hid (cd_no1 hv)
    clear hv
    go_enter Try.func98, Try.ntmps98
    go_wp2_with fail
    refine CV.mono ?_
    rintro e w1 ⟨rfl, hb⟩
    go_wp2_with fail
    go_ret
    exact ⟨ret_int HN.out.symm, hb⟩
  | true =>
    rw [hv] at CV
    have HV := Lib.hid hv
    clear hv
    rcases h with rfl | ⟨g, off, rfl, hc⟩
    · exact absurd (vlR_is HV.out).2.one (by decide)
    · have HC := Lib.hid hc
      clear hc
      go_enter Try.func98, Try.ntmps98
      go_wp2_with fail
      refine CV.mono ?_
      rintro e w1 ⟨rfl, hb⟩
      have HB1 := Lib.hid hb
      clear CV hb
      go_wp2_with fail
      go_loopw [3, 11] (fun n i wr => ∃ k : Nat, k ≤ hs.length ∧ i = .int .i64 k ∧ n = .int .i64 (lcmTo (ledOf hs) k : Int) ∧ Hid (lcmTo (ledOf hs) k ≤ 1000000) ∧ Below w.heap.size w wr) (fun _ i _ => hs.length - (intOf i).toNat)
      case atStart => exact ⟨0, Nat.zero_le _, rfl, rfl, (by show (1 : Nat) ≤ 1000000; omega), HB1.out⟩
      case round =>
        obtain ⟨k, hk, rfl, rfl, HL, hB⟩ := hrel
        by_cases hlt : k < hs.length
        · obtain ⟨c0, c1, c2⟩ := cells_at HC.out hB hlt
          obtain ⟨d0, d1, d2, d3, d4, d5, d6⟩ := cd_step HV.out hlt HL.out
          have hno : 1000000 < lcmTo (ledOf hs) (k + 1) → cdR hs = -1 := fun c => cd_no2 (by omega) c
          have hpos := lcm_pos (ledOf hs) k
          have hle := HL.out
          have hnn : (0 : Int) ≤ (lcmTo (ledOf hs) (k + 1) : Int) := by omega
          have hyes : (lcmTo (ledOf hs) (k + 1) : Int) ≤ 1000000 → lcmTo (ledOf hs) (k + 1) ≤ 1000000 := fun c => by omega
          have hno2 : 1000000 < (lcmTo (ledOf hs) (k + 1) : Int) → cdR hs = -1 := fun c => hno (by omega)
          generalize hs.getD k hd0 = hh at c0 c1 c2 d0 d1 d2 d3 d4 d5
          obtain ⟨x, n, d⟩ := hh
          dsimp only at c0 c1 c2 d0 d1 d2 d3 d4 d5
          have hcm : (1 : Int) ≤ (lcmTo (ledOf hs) k : Int) := by omega
          have hcm2 : (lcmTo (ledOf hs) k : Int) ≤ 1000000 := by omega
          generalize (lcmTo (ledOf hs) k : Int) = cm at d2 d3 d4 d5 hcm hcm2
          obtain ⟨nx, hnx⟩ : ∃ nx, nx = (lcmTo (ledOf hs) (k + 1) : Int) := ⟨_, rfl⟩
          rw [← hnx] at d2 d6 hyes hno2 hnn
          have KG := Lib.hid (fun (W : World) (j : Nat) => Calls.quiet_of_same (w := W) (n := j) ((igcd cm d _ (by omega) (by omega) (by omega) (by omega)).mono (fun _ _ h => ⟨h.1, h.2.symm⟩)))
          have hg0 : ((Int.gcd cm d : Int) == 0) = false := by simp; omega
          have D2 := Lib.hid d2
          have HNX := Lib.hid hnx
          have HB := Lib.hid hB
          have HNO := Lib.hid hno2
          have HYES := Lib.hid hyes
          have hw : IntKind.i64.wrap (cm / (Int.gcd cm d : Int) * d) = nx := by rw [d2]; exact IntWalk.i64_in _ (by omega)
          clear hno hnx hB hno2 hyes hpos hle d2
          go_wp2_with fail
          go_quiet (first | (go_at_call_of 108 (Value.int .i64 cm); exact KG.out _ _))
          by_cases hb : 1000000 < nx
          · go_wp2_with fail
            go_ret
            exact ⟨ret_int (HNO.out hb).symm, below_drewN (HB.out.alloc HB.out.size _) _⟩
          · go_wp2_with fail
            go_roundw
            case rel => exact ⟨k + 1, by omega, by go_num, by rw [HNX.out], HYES.out (by omega), below_drewN (HB.out.alloc HB.out.size _) _⟩
            case measure => simp [intOf]; omega
        · obtain rfl : hs.length = k := by omega
          have HN := Lib.hid (cd_yes HV.out HL.out)
          go_wp2_with fail
          go_ret
          exact ⟨ret_int HN.out.symm, hB⟩

/-- what spec.commonDen leaves -/
def SDen (w : World) (hs : List Hd) (e : Ending) (w' : World) : Prop := ∃ v : Int, e = .returned (.int .i64 v) ∧ (v ≤ 1000000 → cdR hs = v) ∧ (1000000 < v → cdR hs = -1) ∧ 0 ≤ v ∧ v ≤ 10000000000 ∧ Below w.heap.size w w'
set_option maxHeartbeats 1000000 in
theorem scd (a : Option Addr) (cap : Nat) (hs : List Hd) (w : World) (h : IsHs w a hs) (hn : hs.length ≤ 1048576) (hv : vlR hs = true) :
    Calls Try.prog 104 #[.slice a hs.length cap] w (SDen w hs) := by
  have HV := Lib.hid hv
  clear hv
  rcases h with rfl | ⟨g, off, rfl, hc⟩
  · exact absurd (vlR_is HV.out).2.one (by decide)
  · have HC := Lib.hid hc
    clear hc
    go_enter Try.func104, Try.ntmps104
    go_wp2_with fail
    go_loopw [3, 4] (fun n i wr => ∃ k : Nat, k ≤ hs.length ∧ i = .int .i64 k ∧ n = .int .i64 (lcmTo (ledOf hs) k : Int) ∧ Hid (lcmTo (ledOf hs) k ≤ 10000000000) ∧ Below w.heap.size w wr) (fun _ i _ => hs.length - (intOf i).toNat)
    case atStart => exact ⟨0, Nat.zero_le _, rfl, rfl, (by show (1 : Nat) ≤ 10000000000; omega), by go_grown⟩
    case round =>
      obtain ⟨k, hk, rfl, rfl, HL, hB⟩ := hrel
      have hle := HL.out
      by_cases hlt : k < hs.length
      · by_cases hbig : 1000000 < lcmTo (ledOf hs) k
        · have HN := Lib.hid (cd_no2 hk hbig)
          obtain ⟨cm, hcm⟩ : ∃ cm, cm = (lcmTo (ledOf hs) k : Int) := ⟨_, rfl⟩
          rw [← hcm]
          have q1 : 1000000 < cm := by omega
          have q2 : cm ≤ 10000000000 := by omega
          have q3 : decide (cm ≤ 1000000) = false := by simp; omega
          clear hcm hle hbig
          go_wp2_with fail
          go_ret
          exact ⟨cm, rfl, (fun c => by omega), (fun _ => HN.out), by omega, q2, hB⟩
        · obtain ⟨c0, c1, c2⟩ := cells_at HC.out hB hlt
          obtain ⟨d0, d1, d2, d3, d4, d5, d6⟩ := cd_step HV.out hlt (by omega)
          have hpos := lcm_pos (ledOf hs) k
          have hnn : (0 : Int) ≤ (lcmTo (ledOf hs) (k + 1) : Int) := by omega
          have hyes : (lcmTo (ledOf hs) (k + 1) : Int) ≤ 10000000000 → lcmTo (ledOf hs) (k + 1) ≤ 10000000000 := fun c => by omega
          generalize hs.getD k hd0 = hh at c0 c1 c2 d0 d1 d2 d3 d4 d5
          obtain ⟨x, n, d⟩ := hh
          dsimp only at c0 c1 c2 d0 d1 d2 d3 d4 d5
          have hcm : (1 : Int) ≤ (lcmTo (ledOf hs) k : Int) := by omega
          have hcm2 : (lcmTo (ledOf hs) k : Int) ≤ 1000000 := by omega
          clear hle hbig hpos
          generalize (lcmTo (ledOf hs) k : Int) = cm at d2 d3 d4 d5 hcm hcm2
          obtain ⟨nx, hnx⟩ : ∃ nx, nx = (lcmTo (ledOf hs) (k + 1) : Int) := ⟨_, rfl⟩
          rw [← hnx] at d2 d6 hyes hnn
          have KG := Lib.hid (fun (W : World) (j : Nat) => Calls.quiet_of_same (w := W) (n := j) ((sgcd cm d _ (by omega) (by omega) (by omega) (by omega)).mono (fun _ _ h => ⟨h.1, h.2.symm⟩)))
          have hg0 : ((Int.gcd cm d : Int) == 0) = false := by simp; omega
          have D2 := Lib.hid d2
          have HNX := Lib.hid hnx
          have HB := Lib.hid hB
          have HYES := Lib.hid hyes
          have i0 : (0 : Int) ≤ (k : Int) := by omega
          have i1 : (k : Int) < (hs.length : Int) := by omega
          have hw : IntKind.i64.wrap (cm / (Int.gcd cm d : Int) * d) = nx := by rw [d2]; exact IntWalk.i64_in _ (by omega)
          clear hnx hB hyes d2
          go_wp2_with fail
          go_quiet (first | (go_at_call_of 112 (Value.int .i64 cm); exact KG.out _ _))
          go_wp2_with fail
          go_roundw
          case rel => exact ⟨k + 1, by omega, by go_num, by rw [HNX.out], HYES.out d6, below_drewN HB.out _⟩
          case measure => simp [intOf]; omega
      · obtain rfl : hs.length = k := by omega
        have h1 : lcmTo (ledOf hs) hs.length ≤ 1000000 → cdR hs = (lcmTo (ledOf hs) hs.length : Int) := fun c => cd_yes HV.out c
        have h2 : 1000000 < lcmTo (ledOf hs) hs.length → cdR hs = -1 := fun c => cd_no2 (Nat.le_refl _) c
        have H1 : Hid ((lcmTo (ledOf hs) hs.length : Int) ≤ 1000000 → cdR hs = (lcmTo (ledOf hs) hs.length : Int)) := fun c => h1 (by omega)
        have H2 : Hid (1000000 < (lcmTo (ledOf hs) hs.length : Int) → cdR hs = -1) := fun c => h2 (by omega)
        have q0 : (0 : Int) ≤ (lcmTo (ledOf hs) hs.length : Int) := by omega
        have q2 : (lcmTo (ledOf hs) hs.length : Int) ≤ 10000000000 := by omega
        clear h1 h2 hle
        generalize (lcmTo (ledOf hs) hs.length : Int) = cm at q0 q2 H1 H2
        go_wp2_with fail
        go_ret
        exact ⟨cm, rfl, H1.out, H2.out, q0, q2, hB⟩
end Go.Proofs.Ytclpbbhhaclgbaa
namespace Go.Proofs.Ytclpbbhhaclgbaa
open Go.RowKit

def unR (hs : List Hd) : List Int := hs.map fun h => (lcmTo (ledOf hs) hs.length : Int) / h.2.2 * h.2.1
/-- the units, none where there is no common denominator -/
def usR (hs : List Hd) : List Int := if cdR hs = -1 then [] else unR hs
theorem un_len (hs : List Hd) : (unR hs).length = hs.length := by unfold unR; simp
theorem un_get (hs : List Hd) {k : Nat} (h : k < hs.length) : (unR hs).getD k 0 = (lcmTo (ledOf hs) hs.length : Int) / (hs.getD k hd0).2.2 * (hs.getD k hd0).2.1 := by
  unfold unR
  rw [List.getD_eq_getElem?_getD, List.getElem?_map, getD_lt hs h, List.getElem?_eq_getElem h]; rfl
theorem cd_pos {hs : List Hd} (h : cdR hs ≠ -1) : vlR hs = true ∧ lcmTo (ledOf hs) hs.length ≤ 1000000 ∧ cdR hs = (lcmTo (ledOf hs) hs.length : Int) := by
  unfold cdR at h ⊢
  by_cases c : (vlR hs && decide (lcmTo (ledOf hs) hs.length ≤ 1000000)) = true
  · rw [if_pos c]
    simp only [Bool.and_eq_true, decide_eq_true_eq] at c
    exact ⟨c.1, c.2, rfl⟩
  · rw [if_neg c] at h; exact absurd rfl h
/-- bounds of a unit -/
theorem un_bd {hs : List Hd} (h : vlR hs = true) (h2 : lcmTo (ledOf hs) hs.length ≤ 1000000) {k : Nat} (hk : k < hs.length) : 1 ≤ (hs.getD k hd0).2.2 ∧ 0 ≤ (hs.getD k hd0).2.1 ∧ 0 ≤ (lcmTo (ledOf hs) hs.length : Int) / (hs.getD k hd0).2.2 ∧ (lcmTo (ledOf hs) hs.length : Int) / (hs.getD k hd0).2.2 ≤ 1000000 ∧ 0 ≤ (lcmTo (ledOf hs) hs.length : Int) / (hs.getD k hd0).2.2 * (hs.getD k hd0).2.1 ∧ (lcmTo (ledOf hs) hs.length : Int) / (hs.getD k hd0).2.2 * (hs.getD k hd0).2.1 ≤ 10000000000 := by
  have hs1 : allS hs = true := by unfold vlR at h; simp only [Bool.and_eq_true, decide_eq_true_eq] at h; exact h.1.2
  unfold allS at hs1
  rw [rng_all] at hs1
  have := (Wsh.vfB_iff _ _).1 (okF_is (okS_is (hs1 k hk)).1).1
  have q0 : 0 ≤ (lcmTo (ledOf hs) hs.length : Int) / (hs.getD k hd0).2.2 := Int.ediv_nonneg (by omega) (by omega)
  have q1 : (lcmTo (ledOf hs) hs.length : Int) / (hs.getD k hd0).2.2 ≤ 1000000 := Int.le_trans (Int.ediv_le_self _ (by omega)) (by omega)
  exact ⟨this.1, this.2.2.1, q0, q1, Int.mul_nonneg q0 this.2.2.1, Int.le_trans (Int.mul_le_mul q1 (by omega : (hs.getD k hd0).2.1 ≤ 10000) this.2.2.1 (by omega)) (by decide)⟩

theorem iUnits_no (a : Option Addr) (cap : Nat) (hs : List Hd) (w : World) (h : IsHs w a hs) (hn : hs.length ≤ 1048576) (hcd : cdR hs = -1) :
    Calls Try.prog 65 #[.slice a hs.length cap] w fun e w' => e = .returned (.slice none 0 0) ∧ Below w.heap.size w w' := by
  have CV := iCD a cap hs w h hn
  rw [hcd] at CV
  clear hcd
  go_enter Try.func65, Try.ntmps65
  go_wp2_with fail
  refine CV.mono ?_
  rintro e w1 ⟨rfl, hb⟩
  go_wp2_with fail
  go_ret
  exact ⟨rfl, hb⟩
/-- what impl.UnitsOf leaves -/
def UnitsI (w : World) (hs : List Hd) (e : Ending) (w' : World) : Prop := ∃ g : Nat, e = .returned (.slice (some ⟨g, 0, none⟩) hs.length hs.length) ∧ w.heap.size ≤ g ∧ Row w' g (unR hs) ∧ Below w.heap.size w w'
set_option maxHeartbeats 2000000 in
theorem iUnits (a : Option Addr) (cap : Nat) (hs : List Hd) (w : World) (h : IsHs w a hs) (hn : hs.length ≤ 1048576) (hcd : cdR hs ≠ -1) :
    Calls Try.prog 65 #[.slice a hs.length cap] w (UnitsI w hs) := by
  obtain ⟨hv, hl, hce⟩ := cd_pos hcd
  have CV := iCD a cap hs w h hn
  rw [hce] at CV
  have hmk := run_make_row' (P := Try.prog) 27 3 (.int .i64 0) 8 Try.underlying27 infoInt rfl .i64 .i64 hs.length (by omega) (by omega)
  have HV := Lib.hid hv
  have HL := Lib.hid hl
  rcases h with rfl | ⟨g, off, rfl, hc⟩
  · exact absurd (vlR_is hv).2.one (by decide)
  · have HC := Lib.hid hc
    have cm0 : (0 : Int) ≤ (lcmTo (ledOf hs) hs.length : Int) := by omega
    have cm1 : (lcmTo (ledOf hs) hs.length : Int) ≤ 1000000 := by omega
    obtain ⟨cm, hcm⟩ : ∃ cm, cm = (lcmTo (ledOf hs) hs.length : Int) := ⟨_, rfl⟩
    rw [← hcm] at CV cm0 cm1
    have HCM := Lib.hid hcm
    clear hc hv hl hce hcd hcm
    go_enter Try.func65, Try.ntmps65
    go_wp2_with fail
    refine CV.mono ?_
    rintro e w1 ⟨rfl, hb⟩
    have HB1 := Lib.hid hb
    have hsz := hb.size
    clear hb CV
    go_wp2_with fail
    clear hmk
    obtain ⟨G, hG⟩ : ∃ G, G = w1.heap.size := ⟨_, rfl⟩
    rw [← hG]
    have hGw : w.heap.size ≤ G := by omega
    have hr0 : (w1.alloc (.cells (madeCells #[.int .i64 0] hs.length) 3)).rowIs G 3 hs.length (fun j => if j < 0 then .int .i64 ((unR hs).getD j 0) else .int .i64 0) := by
      rw [hG]; exact (World.rowIs_made w1 (.int .i64 0) hs.length _).congr (fun i hi => by simp)
    have hB0 := HB1.out.alloc HB1.out.size (.cells (madeCells #[.int .i64 0] hs.length) 3)
    clear hG
    go_loopw [16] (fun i wr => ∃ k : Nat, k ≤ hs.length ∧ i = .int .i64 k ∧ wr.rowIs G 3 hs.length (fun j => if j < k then .int .i64 ((unR hs).getD j 0) else .int .i64 0) ∧ Below w.heap.size w wr) (fun i _ => hs.length - (intOf i).toNat)
    case atStart => exact ⟨0, Nat.zero_le _, rfl, hr0, hB0⟩
    case round =>
      clear hr0 hB0
      obtain ⟨k, hk, rfl, hrow, hB⟩ := hrel
      by_cases hlt : k < hs.length
      · obtain ⟨c0, c1, c2⟩ := cells_at HC.out hB hlt
        obtain ⟨b0, b1, b2, b3, b4, b5⟩ := un_bd HV.out HL.out hlt
        have hg := un_get hs hlt
        rw [← HCM.out] at b2 b3 b4 b5 hg
        have hd : wr.cell? ⟨G, k, none⟩ = some (.int .i64 0) := by rw [hrow.cell hlt, if_neg (Nat.lt_irrefl k)]
        have hf := hrow.frozen k
        have hGl := World.rowIs.lt hrow
        have hcon : ∀ z : Int, (unR hs).getD k 0 = z → (wr.setCell ⟨G, k, none⟩ (.int .i64 z)).rowIs G 3 hs.length (fun j => if j < k + 1 then .int .i64 ((unR hs).getD j 0) else .int .i64 0) := fun z hz =>
          (hrow.set k (.int .i64 z)).congr (fun j hj => by
            show (if j = k then Value.int .i64 z else if j < k then .int .i64 ((unR hs).getD j 0) else .int .i64 0) = _
            by_cases hjk : j = k
            · subst hjk; rw [if_pos rfl, if_pos (by omega), hz]
            · rw [if_neg hjk]
              by_cases hl : j < k
              · rw [if_pos hl, if_pos (by omega)]
              · rw [if_neg hl, if_neg (by omega)])
        have hcon2 := hcon _ hg
        clear hcon
        generalize hs.getD k hd0 = hh at c0 c1 c2 b0 b1 b2 b3 b4 b5 hcon2
        obtain ⟨x, n, d⟩ := hh
        dsimp only at c0 c1 c2 b0 b1 b2 b3 b4 b5 hcon2
        have hd0' : (d == 0) = false := by simp; omega
        have hw : IntKind.i64.wrap (cm / d * n) = cm / d * n := IntWalk.i64_in _ (by omega)
        have i0 : (0 : Int) ≤ (k : Int) := by omega
        have i1 : (k : Int) < (hs.length : Int) := by omega
        have HR := Lib.hid hcon2
        have HB := Lib.hid hB
        clear hcon2 hrow hB hg
        go_wp2_with fail
        go_region
        all_goals (
          go_wp2_with fail
          go_roundw
          case rel => exact ⟨k + 1, by omega, by go_num, (HR.out.alloc _).drew, ((HB.out.setCell hGw _).alloc (by simpa using HB.out.size) _).drew⟩
          case measure => simp [intOf]; omega)
      · have HR := Lib.hid hrow
        have HB := Lib.hid hB
        clear hrow hB
        go_wp2_with fail
        go_ret
        refine ⟨_, rfl, hGw, ?_, HB.out⟩
        have e := un_len hs
        unfold Row
        rw [e]
        exact HR.out.congr (fun i hi => by rw [if_pos (by omega)])

theorem sUnits_no (a : Option Addr) (cap : Nat) (hs : List Hd) (w : World) (h : IsHs w a hs) (hn : hs.length ≤ 1048576) (hcd : cdR hs = -1) :
    Calls Try.prog 69 #[.slice a hs.length cap] w fun e w' => e = .returned (.slice none 0 0) ∧ Below w.heap.size w w' := by
  have CV := svl a cap hs w h hn
  have HI := Lib.hid h
  clear h
  cases hv : vlR hs with
  | false =>
    rw [hv] at CV
    clear hcd hv
    go_enter Try.func69, Try.ntmps69
    go_wp2_with fail
    refine CV.mono ?_
    rintro e w1 ⟨rfl, hb⟩
    go_wp2_with fail
    go_ret
    exact ⟨rfl, hb⟩
  | true =>
    rw [hv] at CV
    have HV := Lib.hid hv
    have HC := Lib.hid hcd
    clear hcd hv
    go_enter Try.func69, Try.ntmps69
    go_wp2_with fail
    refine CV.mono ?_
    rintro e w1 ⟨rfl, hb⟩
    go_wp2_with fail
    refine (scd a cap hs _ (hs_below HI.out hb) hn HV.out).mono ?_
    rintro e w2 ⟨v, rfl, e1, e2, q0, q2, hb2⟩
    have hbig : 1000000 < v := by
      rcases Int.lt_or_le 1000000 v with h | h
      · exact h
      · have := e1 h; rw [HC.out] at this; omega
    clear e1 e2
    go_wp2_with fail
    go_ret
    exact ⟨rfl, bel_tr hb hb2⟩
theorem keepU {w W : World} {g off k : Nat} {hs : List Hd} {x n d : Int} (hc : ∀ i, i < hs.length → w.cell? ⟨g, off + i * 3, none⟩ = some (.int .i64 (hs.getD i hd0).1) ∧ w.cell? ⟨g, off + i * 3 + 1, none⟩ = some (.int .i64 (hs.getD i hd0).2.1) ∧ w.cell? ⟨g, off + i * 3 + 2, none⟩ = some (.int .i64 (hs.getD i hd0).2.2)) (hk : k < hs.length) (hx : hs.getD k hd0 = (x, n, d)) (hB : Below w.heap.size w W) :
    W.cell? ⟨g, off + k * 3 + 1, none⟩ = some (.int .i64 n) ∧ W.cell? ⟨g, off + k * 3 + 2, none⟩ = some (.int .i64 d) ∧ Below w.heap.size w W := by
  obtain ⟨_, c1, c2⟩ := cells_at hc hB hk
  rw [hx] at c1 c2
  exact ⟨c1, c2, hB⟩
theorem take_mapI (l : List Int) (k : Nat) (h : k < l.length) : (l.take (k + 1)).map (Value.int .i64) = (l.take k).map (Value.int .i64) ++ [.int .i64 (l.getD k 0)] := by
  rw [List.take_succ_eq_append_getElem h, List.map_append, List.getD_eq_getElem?_getD, List.getElem?_eq_getElem h]; rfl
theorem new_reads (w : World) (u : Value) (t : TypeId) : Reads (w.alloc (.cells #[u] t)) (w.heap.size + 1) 1 (some ⟨w.heap.size, 0, none⟩) 1 [u] :=
  ⟨rfl, fun _ => ⟨_, rfl, Nat.lt_succ_self _, new_cells w [u] t⟩⟩
/-- what spec.UnitsOf leaves -/
def UnitsS (w : World) (hs : List Hd) (e : Ending) (w' : World) : Prop := ∃ v, e = .returned v ∧ w'.ownsRow w.heap.size 3 1 v hs.length ((unR hs).map (Value.int .i64)) ∧ Below w.heap.size w w'
set_option maxRecDepth 100000 in
set_option maxHeartbeats 4000000 in
theorem sUnits (a : Option Addr) (cap : Nat) (hs : List Hd) (w : World) (h : IsHs w a hs) (hn : hs.length ≤ 1048576) (hcd : cdR hs ≠ -1) :
    Calls Try.prog 69 #[.slice a hs.length cap] w (UnitsS w hs) := by
  obtain ⟨hv, hl, hce⟩ := cd_pos hcd
  have CV := svl a cap hs w h hn
  rw [hv] at CV
  have HI := Lib.hid h
  obtain ⟨i0, hi, hz0, hz1, hz2⟩ := info_parts infoInt
  have HV := Lib.hid hv
  have HL := Lib.hid hl
  rcases h with rfl | ⟨g, off, rfl, hc⟩
  · exact absurd (vlR_is hv).2.one (by decide)
  · have HC := Lib.hid hc
    have cm0 : (0 : Int) ≤ (lcmTo (ledOf hs) hs.length : Int) := by omega
    have cm1 : (lcmTo (ledOf hs) hs.length : Int) ≤ 1000000 := by omega
    obtain ⟨cm, hcm⟩ : ∃ cm, cm = (lcmTo (ledOf hs) hs.length : Int) := ⟨_, rfl⟩
    rw [← hcm] at hce cm0 cm1
    have HCM := Lib.hid hcm
    have HCE := Lib.hid hce
    have scm : ∀ (W : World), IsHs W (some ⟨g, off, none⟩) hs → Calls Try.prog 104 #[.slice (some ⟨g, off, none⟩) hs.length cap] W fun e w' => e = .returned (.int .i64 cm) ∧ Below W.heap.size W w' := fun W hW => (scd _ cap hs W hW hn hv).mono (by
      rintro e w2 ⟨v, rfl, e1, e2, q0, q2, hb2⟩
      rcases Int.lt_or_le 1000000 v with h | h
      · have := e2 h; rw [hce] at this; omega
      · have := e1 h; rw [hce] at this; rw [this]; exact ⟨rfl, hb2⟩)
    have SCM := Lib.hid scm
    clear hc hv hl hce hcd hcm scm
    go_enter Try.func69, Try.ntmps69
    go_wp2_with fail
    refine CV.mono ?_
    rintro e w1 ⟨rfl, hb⟩
    clear CV
    go_wp2_with fail
    refine (SCM.out _ (hs_below HI.out hb)).mono ?_
    rintro e w2 ⟨rfl, hb2⟩
    have hB2 := bel_tr hb hb2
    clear hb hb2
    go_wp2_with fail
    have hB2a := hB2.alloc hB2.size (.cells #[] 3)
    refine (SCM.out _ (hs_below HI.out hB2a)).mono ?_
    rintro e w3 ⟨rfl, hb3⟩
    have hB3 := bel_tr hB2a hb3
    have hblk := (Blk.new w2 3 #[]).next hb3
    have hown0 : w3.ownsRow w.heap.size 3 1 (.slice (some ⟨w2.heap.size, 0, none⟩) 0 0) 0 (((unR hs).take 0).map (Value.int .i64)) := ⟨by simp, .inr ⟨w2.heap.size, 0, #[], rfl, hB2.size, hblk, Nat.le_refl _, by unfold maxLen; omega, rfl, rfl⟩⟩
    clear hb3 hblk hB2a
    go_wp2_with fail
    go_loopw [3, 5] (fun v i wr => ∃ k : Nat, k ≤ hs.length ∧ i = .int .i64 k ∧ wr.ownsRow w.heap.size 3 1 v k (((unR hs).take k).map (Value.int .i64)) ∧ Below w.heap.size w wr) (fun _ i _ => hs.length - (intOf i).toNat)
    case atStart => exact ⟨0, Nat.zero_le _, rfl, hown0, hB3⟩
    case round =>
      clear hown0 hB3 hB2
      obtain ⟨k, hk, rfl, hown, hB⟩ := hrel
      by_cases hlt : k < hs.length
      · obtain ⟨b0, b1, b2, b3, b4, b5⟩ := un_bd HV.out HL.out hlt
        have hg := un_get hs hlt
        have ht := take_mapI (unR hs) k (by rw [un_len]; exact hlt)
        rw [hg] at ht
        rw [← HCM.out] at b2 b3 b4 b5 ht
        obtain ⟨hh, hhe⟩ : ∃ hh, hs.getD k hd0 = hh := ⟨_, rfl⟩
        obtain ⟨x, n, d⟩ := hh
        rw [hhe] at b0 b1 b2 b3 b4 b5 ht
        dsimp only at b0 b1 b2 b3 b4 b5 ht
        have HHE := Lib.hid hhe
        have HT := Lib.hid ht
        have hd0' : (d == 0) = false := by simp; omega
        have hw : IntKind.i64.wrap (cm / d * n) = cm / d * n := IntWalk.i64_in _ (by omega)
        have hq1 : cm.tdiv d = cm / d := Int.tdiv_eq_ediv_of_nonneg cm0
        have hq2 : IntKind.i64.wrap (cm / d) = cm / d := IntWalk.i64_in _ (by omega)
        have hdz : ¬ d = 0 := by omega
        have i0' : (0 : Int) ≤ (k : Int) := by omega
        have i1 : (k : Int) < (hs.length : Int) := by omega
        have HB := Lib.hid hB
        have hBd := hB.drew
        clear hg ht hB hhe
        go_wp2_with fail
        have hownD := (show World.ownsRow wr.drew _ _ _ _ _ _ from hown)
        have hownA := hownD.alloc (.cells #[.int .i64 (cm / d * n)] 3)
        have hnew : Reads (wr.drew.alloc (.cells #[.int .i64 (cm / d * n)] 3)) (wr.heap.size + 1) 1 (some ⟨wr.heap.size, 0, none⟩) 1 [.int .i64 (cm / d * n)] := new_reads wr.drew _ _
        have hbs : w.heap.size ≤ (wr.drew.alloc (.cells #[.int .i64 (cm / d * n)] 3)).heap.size := by have := hBd.size; simp at this ⊢; omega
        go_region_held3 (fun w' => w'.cell? ⟨g, off + k * 3 + 1, none⟩ = some (.int .i64 n) ∧ w'.cell? ⟨g, off + k * 3 + 2, none⟩ = some (.int .i64 d) ∧ Below w.heap.size w w') (first | (exact keepU HC.out hlt HHE.out hBd) | (exact keepU HC.out hlt HHE.out (hBd.alloc hBd.size _)) | (exact keepU HC.out hlt HHE.out ((hBd.alloc hBd.size _).grown hg3 (hBd.alloc hBd.size _).size (fun q hq => (hown.lt q hq).1))))
          ((refine step_append_any _ rfl (.tmp 23) (.tmp 39) 27 (by rfl) w.heap.size 3 i0 (.int .i64 0) 1 8 Try.underlying27 hi hz0 hz1 hz2 rfl (by decide) _ k (((unR hs).take k).map (Value.int .i64)) (by rfl) hownA (wr.heap.size + 1) (some ⟨wr.heap.size, 0, none⟩) 1 1 [.int .i64 (cm / d * n)] (by rfl) hnew (fun x hx => by simp at hx; subst hx; rfl) (by unfold maxLen; omega) (by omega) hbs ?_; intro v' w3 hown' hg3 hat3))
        have hB3 : Below w.heap.size w w3 := (And.right (And.right (by assumption)))
        have hown3 : w3.ownsRow w.heap.size 3 1 v' (k + 1) (((unR hs).take (k + 1)).map (Value.int .i64)) := by rw [HT.out]; exact hown'
        go_wp2_with fail
        go_roundw
        case rel => exact ⟨k + 1, by omega, by go_num, hown3, hB3⟩
        case measure => simp [intOf]; omega
      · obtain rfl : hs.length = k := by omega
        have HO := Lib.hid hown
        have HB := Lib.hid hB
        clear hown hB
        go_wp2_with fail
        go_ret
        refine ⟨_, rfl, ?_, HB.out⟩
        have ho := HO.out
        rw [List.take_of_length_le (by rw [un_len]; exact Nat.le_refl _)] at ho
        exact ho
end Go.Proofs.Ytclpbbhhaclgbaa
namespace Go.Proofs.Ytclpbbhhaclgbaa
open Go.RowKit

/-- valid weights -/
def vwB (zs : List Int) : Bool := allB zs 1000 && decide (zs.length ≤ 12) && decide (0 < zs.sum)
theorem vw_no1 {zs : List Int} (h : allB zs 1000 = false) : vwB zs = false := by unfold vwB; rw [h]; rfl
theorem vw_no2 {zs : List Int} (h : 12 < zs.length) : vwB zs = false := by unfold vwB; rw [decide_eq_false (by omega : ¬ zs.length ≤ 12)]; simp
theorem vw_sum {zs : List Int} (h : allB zs 1000 = true) (h2 : zs.length ≤ 12) : vwB zs = decide (0 < zs.sum) := by unfold vwB; rw [h, decide_eq_true h2]; rfl
theorem all_bd {zs : List Int} {most : Int} (h : allB zs most = true) (hm : most ≤ 1000000) : ∀ z ∈ zs, -1000000 ≤ z ∧ z ≤ 1000000 := fun z hz => by
  have := (allB_iff zs most).1 h z hz; omega

theorem vw_is {ws : List Int} (h : vwB ws = true) : allB ws 1000 = true ∧ ws.length ≤ 12 ∧ 0 < ws.sum := by
  unfold vwB at h; simp only [Bool.and_eq_true, decide_eq_true_eq] at h; exact ⟨h.1.1, h.1.2, h.2⟩

set_option maxHeartbeats 1000000 in
/-- spec.validWeights -/
theorem svw (a : Option Addr) (cap : Nat) (zs : List Int) (w : World) (h : IsInts w a zs) (hn : zs.length ≤ 1048576) :
    Calls Try.prog 105 #[.slice a zs.length cap] w fun e w' => e = .returned (.bool (vwB zs)) ∧ w = w' := by
  have h0 := h
  rcases h with rfl | ⟨g, o, rfl, hc⟩
  · go_enter Try.func105, Try.ntmps105
    go_wp2_with fail
    refine wp_loop_rounds 1 ?_
    rw [rounds_succ]
    go_wp2_with fail
    refine (stotal a cap [] _ h0 (by simp) (by simp)).mono ?_
    rintro e w' ⟨rfl, rfl⟩
    go_wp2_with fail
    go_ret
    exact ⟨rfl, rfl⟩
  · have HC := Lib.hid hc
    have H0 := Lib.hid h0
    clear hc h0
    go_enter Try.func105, Try.ntmps105
    go_wp2_with fail
    go_loop [3] (fun i => ∃ k : Nat, k ≤ zs.length ∧ i = .int .i64 k ∧ Hid (∀ j, j < k → 0 ≤ zs.getD j 0 ∧ zs.getD j 0 ≤ 1000)) (fun i => zs.length - (intOf i).toNat)
    case atStart => exact ⟨0, Nat.zero_le _, rfl, fun j hj => by omega⟩
    case round =>
      obtain ⟨k, hk, rfl, HA⟩ := hrel
      by_cases hlt : k < zs.length
      · have hc := HC.out k hlt
        have hno := allB_no (most := 1000) hlt
        have hyes : 0 ≤ zs.getD k 0 → zs.getD k 0 ≤ 1000 → ∀ j, j < k + 1 → 0 ≤ zs.getD j 0 ∧ zs.getD j 0 ≤ 1000 := fun h0 h1 j hj => by
          by_cases hjk : j = k
          · subst hjk; exact ⟨h0, h1⟩
          · exact HA.out j (by omega)
        generalize zs.getD k 0 = z at hc hno hyes
        have HN := Lib.hid hno
        have HY := Lib.hid hyes
        clear hno hyes
        by_cases zb : z < 0 ∨ 1000 < z
        · have HNN := Lib.hid (vw_no1 (HN.out zb))
          go_wp2_with fail
          refine (inRange_no z 0 1000 _ zb).mono ?_
          rintro e w' ⟨rfl, rfl⟩
          go_wp2_with fail
          go_ret
          exact ⟨ret_bool HNN.out.symm, rfl⟩
        · go_wp2_with fail
          refine (inRange_yes z 0 1000 _ (by omega) (by omega)).mono ?_
          rintro e w' ⟨rfl, rfl⟩
          go_wp2_with fail
          go_round
          case rel => exact ⟨k + 1, by omega, by go_num, HY.out (by omega) (by omega)⟩
          case measure => simp [intOf]; omega
      · have hall := allB_yes (most := 1000) (fun j hj => HA.out j (by omega))
        have HL := Lib.hid hall
        clear hall
        by_cases h12 : 12 < zs.length
        · go_wp2_with fail
          go_ret
          exact ⟨ret_bool (vw_no2 h12).symm, rfl⟩
        · have HS := Lib.hid (vw_sum HL.out (by omega))
          go_wp2_with fail
          refine (stotal _ cap zs _ H0.out (by omega) (all_bd HL.out (by omega))).mono ?_
          rintro e w' ⟨rfl, rfl⟩
          go_wp2_with fail
          go_ret
          exact ⟨ret_bool HS.out.symm, rfl⟩
set_option maxHeartbeats 1000000 in
/-- impl.ValidWeights -/
theorem iVW (a : Option Addr) (cap : Nat) (zs : List Int) (w : World) (h : IsInts w a zs) (hn : zs.length ≤ 1048576) :
    Calls Try.prog 66 #[.slice a zs.length cap] w fun e w' => e = .returned (.bool (vwB zs)) ∧ w = w' := by
  by_cases h1 : zs.length < 1
  · have hz : zs = [] := List.eq_nil_of_length_eq_zero (by omega)
    subst hz
    go_enter Try.func66, Try.ntmps66
    go_wp2_with fail
    go_ret
    exact ⟨rfl, rfl⟩
  · have h1' : ¬ (zs.length : Int) < 1 := by omega
    by_cases h2 : 12 < zs.length
    · have h2' : (12 : Int) < (zs.length : Int) := by omega
      go_enter Try.func66, Try.ntmps66
      go_wp2_with fail
      go_ret
      exact ⟨ret_bool (vw_no2 h2).symm, rfl⟩
    · have h2' : ¬ (12 : Int) < (zs.length : Int) := by omega
      cases hall : allB zs 1000 with
      | false =>
        have HN := Lib.hid (vw_no1 hall)
        go_enter Try.func66, Try.ntmps66
        go_wp2_with fail
        refine (iall a cap zs 1000 _ h hn).mono ?_
        rintro e w' ⟨rfl, rfl⟩
        go_wp2_with fail
        go_ret
        exact ⟨ret_bool HN.out.symm, rfl⟩
      | true =>
        have HS := Lib.hid (vw_sum hall (by omega))
        have HZ := Lib.hid (all_bd hall (by omega))
        go_enter Try.func66, Try.ntmps66
        go_wp2_with fail
        refine (iall a cap zs 1000 _ h hn).mono ?_
        rintro e w' ⟨rfl, rfl⟩
        go_wp2_with fail
        refine (isum a cap zs _ h hn HZ.out).mono ?_
        rintro e w' ⟨rfl, rfl⟩
        go_wp2_with fail
        go_ret
        exact ⟨ret_bool HS.out.symm, rfl⟩
end Go.Proofs.Ytclpbbhhaclgbaa
namespace Go.Proofs.Ytclpbbhhaclgbaa
open Go.RowKit

/-- what can be divided -/
def csB (n : Int) (ws : List Int) : Bool := decide (0 ≤ n) && decide (n ≤ 500) && vwB ws
theorem cs_no1 {n : Int} (ws : List Int) (h : n < 0 ∨ 500 < n) : csB n ws = false := by
  unfold csB
  rcases h with h | h
  · rw [decide_eq_false (by omega : ¬ 0 ≤ n)]; rfl
  · rw [decide_eq_false (by omega : ¬ n ≤ 500)]; simp
theorem cs_is {n : Int} {ws : List Int} (h : 0 ≤ n ∧ n ≤ 500) : csB n ws = vwB ws := by unfold csB; rw [decide_eq_true h.1, decide_eq_true h.2]; rfl
theorem cs_yes {n : Int} {ws : List Int} (h : csB n ws = true) : (0 ≤ n ∧ n ≤ 500) ∧ vwB ws = true := by
  unfold csB at h; simp only [Bool.and_eq_true, decide_eq_true_eq] at h; exact h
theorem icanSplit (n : Int) (a : Option Addr) (cap : Nat) (ws : List Int) (w : World) (h : IsInts w a ws) (hn : ws.length ≤ 1048576) :
    Calls Try.prog 101 #[.int .i64 n, .slice a ws.length cap] w fun e w' => e = .returned (.bool (csB n ws)) ∧ w = w' := by
  by_cases h1 : n < 0
  · go_enter Try.func101, Try.ntmps101
    go_wp2_with fail
    go_ret
    exact ⟨ret_bool (cs_no1 ws (by omega)).symm, rfl⟩
  · by_cases h2 : 500 < n
    · have h3 : decide (n ≤ 500) = false := by simp; omega
      go_enter Try.func101, Try.ntmps101
      go_wp2_with fail
      go_ret
      exact ⟨ret_bool (cs_no1 ws (by omega)).symm, rfl⟩
    · have HC := Lib.hid (cs_is (n := n) (ws := ws) (by omega))
      go_enter Try.func101, Try.ntmps101
      go_wp2_with fail
      refine (iVW a cap ws _ h hn).mono ?_
      rintro e w' ⟨rfl, rfl⟩
      go_wp2_with fail
      go_ret
      exact ⟨ret_bool HC.out.symm, rfl⟩
theorem svalidSplit (n : Int) (a : Option Addr) (cap : Nat) (ws : List Int) (w : World) (h : IsInts w a ws) (hn : ws.length ≤ 1048576) :
    Calls Try.prog 70 #[.int .i64 n, .slice a ws.length cap] w fun e w' => e = .returned (.bool (csB n ws)) ∧ w = w' := by
  by_cases h1 : n < 0 ∨ 500 < n
  · go_enter Try.func70, Try.ntmps70
    go_wp2_with fail
    refine (inRange_no n 0 500 _ h1).mono ?_
    rintro e w' ⟨rfl, rfl⟩
    go_wp2_with fail
    go_ret
    exact ⟨ret_bool (cs_no1 ws h1).symm, rfl⟩
  · have HC := Lib.hid (cs_is (n := n) (ws := ws) (by omega))
    go_enter Try.func70, Try.ntmps70
    go_wp2_with fail
    refine (inRange_yes n 0 500 _ (by omega) (by omega)).mono ?_
    rintro e w' ⟨rfl, rfl⟩
    go_wp2_with fail
    refine (svw a cap ws _ h hn).mono ?_
    rintro e w' ⟨rfl, rfl⟩
    go_wp2_with fail
    go_ret
    exact ⟨ret_bool HC.out.symm, rfl⟩

/-- the quotas -/
def qs (n : Int) (ws : List Int) : List Int := ws.map fun z => n * z / ws.sum
theorem qs_len (n : Int) (ws : List Int) : (qs n ws).length = ws.length := by unfold qs; simp
theorem qs_get (n : Int) (ws : List Int) {k : Nat} (h : k < ws.length) : (qs n ws).getD k 0 = n * ws.getD k 0 / ws.sum := by
  unfold qs
  rw [List.getD_eq_getElem?_getD, List.getD_eq_getElem?_getD, List.getElem?_map, List.getElem?_eq_getElem h]; rfl
theorem q_bd {n : Int} {ws : List Int} (h : csB n ws = true) {k : Nat} (hk : k < ws.length) : 0 ≤ ws.getD k 0 ∧ ws.getD k 0 ≤ 1000 ∧ 0 ≤ n * ws.getD k 0 ∧ n * ws.getD k 0 ≤ 500000 := by
  obtain ⟨⟨a, b⟩, c⟩ := cs_yes h
  have e := (allB_iff ws 1000).1 (vw_is c).1 _ (getD_mem hk)
  exact ⟨e.1, e.2, Int.mul_nonneg a e.1, Int.le_trans (Int.mul_le_mul b e.2 e.1 (by omega)) (by omega)⟩
theorem ws_bd {ws : List Int} (h : vwB ws = true) : 1 ≤ ws.sum ∧ ws.sum ≤ 12000000 := by
  obtain ⟨a, b, c⟩ := vw_is h
  have := sum_bd ws (all_bd a (by omega)) ws.length (Nat.le_refl _)
  rw [List.take_of_length_le (Nat.le_refl _)] at this
  omega

/-- what QuotasOf leaves -/
def Quot (w : World) (n : Int) (ws : List Int) (e : Ending) (w' : World) : Prop := ∃ g : Nat, e = .returned (.slice (some ⟨g, 0, none⟩) ws.length ws.length) ∧ w.heap.size ≤ g ∧ Row w' g (qs n ws) ∧ Below w.heap.size w w'

theorem iquot_no (n : Int) (a : Option Addr) (cap : Nat) (ws : List Int) (w : World) (h : IsInts w a ws) (hn : ws.length ≤ 1048576) (hcs : csB n ws = false) :
    Calls Try.prog 102 #[.int .i64 n, .slice a ws.length cap] w fun e w' => e = .returned (.slice none 0 0) ∧ w = w' := by
  go_enter Try.func102, Try.ntmps102
  go_wp2_with fail
  refine (icanSplit n a cap ws _ h hn).mono ?_
  rintro e w' ⟨rfl, rfl⟩
  go_wp2_with fail
  go_ret
  exact ⟨rfl, rfl⟩
set_option maxHeartbeats 1000000 in
theorem iquot (n : Int) (a : Option Addr) (cap : Nat) (ws : List Int) (w : World) (h : IsInts w a ws) (hn : ws.length ≤ 1048576) (hcs : csB n ws = true) :
    Calls Try.prog 102 #[.int .i64 n, .slice a ws.length cap] w (Quot w n ws) := by
  obtain ⟨⟨n0, n1⟩, hv⟩ := cs_yes hcs
  have h0 := h
  rcases h with rfl | ⟨g, o, rfl, hc⟩
  · exact absurd (vw_is hv).2.2 (by simp)
  · have hmk := run_make_row' (P := Try.prog) 27 3 (.int .i64 0) 8 Try.underlying27 infoInt rfl .i64 .i64 ws.length (by omega) (by omega)
    obtain ⟨s0, s1⟩ := ws_bd hv
    have HZ := Lib.hid (all_bd (vw_is hv).1 (by omega))
    have HC := Lib.hid hc
    have HK := Lib.hid hcs
    clear hc hv
    go_enter Try.func102, Try.ntmps102
    go_wp2_with fail
    refine (icanSplit n _ cap ws _ h0 hn).mono ?_
    rintro e w' ⟨rfl, rfl⟩
    go_wp2_with fail
    refine (isum _ cap ws _ h0 hn HZ.out).mono ?_
    rintro e w' ⟨rfl, rfl⟩
    go_wp2_with fail
    clear hmk hcs
    go_loopw [20] (fun i wr => ∃ k : Nat, k ≤ ws.length ∧ i = .int .i64 k ∧ wr.rowIs w.heap.size 3 ws.length (fun j => if j < k then .int .i64 ((qs n ws).getD j 0) else .int .i64 0) ∧ Below w.heap.size w wr) (fun i _ => ws.length - (intOf i).toNat)
    case atStart => exact ⟨0, Nat.zero_le _, rfl, (World.rowIs_made w (.int .i64 0) ws.length _).congr (fun i hi => by simp), by go_grown⟩
    case round =>
      obtain ⟨k, hk, rfl, hrow, hB⟩ := hrel
      by_cases hlt : k < ws.length
      · have hc0 := HC.out k hlt
        have hc := (hB.cell (p := ⟨g, o + k, none⟩) (World.block_lt_of_cell? w _ hc0)).trans hc0
        have hd : wr.cell? ⟨w.heap.size, k, none⟩ = some (.int .i64 0) := by rw [hrow.cell hlt, if_neg (Nat.lt_irrefl k)]
        have hf := hrow.frozen k
        have hcon : ∀ z : Int, (qs n ws).getD k 0 = z → (wr.setCell ⟨w.heap.size, k, none⟩ (.int .i64 z)).rowIs w.heap.size 3 ws.length (fun j => if j < k + 1 then .int .i64 ((qs n ws).getD j 0) else .int .i64 0) := fun z hz =>
          (hrow.set k (.int .i64 z)).congr (fun j hj => by
            show (if j = k then Value.int .i64 z else if j < k then .int .i64 ((qs n ws).getD j 0) else .int .i64 0) = _
            by_cases hjk : j = k
            · subst hjk; rw [if_pos rfl, if_pos (by omega), hz]
            · rw [if_neg hjk]
              by_cases hl : j < k
              · rw [if_pos hl, if_pos (by omega)]
              · rw [if_neg hl, if_neg (by omega)])
        have hcon2 := hcon _ (qs_get n ws hlt)
        obtain ⟨z0, z1, z2, z3⟩ := q_bd HK.out hlt
        clear hcon hc0
        generalize ws.getD k 0 = z at hc hcon2 z0 z1 z2 z3
        have HR := Lib.hid hcon2
        have HB := Lib.hid hB
        clear hcon2 hrow hB
        go_wp2
        go_roundw
        case rel => exact ⟨k + 1, by omega, by go_num, HR.out, HB.out.setCell (Nat.le_refl _) _⟩
        case measure => simp [intOf]; omega
      · have HR := Lib.hid hrow
        have HB := Lib.hid hB
        clear hrow hB
        go_wp2
        go_ret
        refine ⟨_, rfl, Nat.le_refl _, ?_, HB.out⟩
        have e : (qs n ws).length = ws.length := qs_len n ws
        unfold Row
        rw [e]
        exact HR.out.congr (fun i hi => by rw [if_pos (by omega)])

/-- what spec.quotas leaves -/
def QuotS (w : World) (n : Int) (ws : List Int) (e : Ending) (w' : World) : Prop := ∃ (b : Option Addr) (cap : Nat), e = .returned (.slice b ws.length cap) ∧ IsInts w' b (qs n ws) ∧ Below w.heap.size w w'
def QuotO (w : World) (n : Int) (ws : List Int) (e : Ending) (w' : World) : Prop := ∃ v, e = .returned v ∧ w'.ownsRow w.heap.size 3 1 v ws.length ((qs n ws).map (Value.int .i64)) ∧ Below w.heap.size w w'
set_option maxHeartbeats 2000000 in
theorem squotasO (n : Int) (a : Option Addr) (cap : Nat) (ws : List Int) (w : World) (h : IsInts w a ws) (hn : ws.length ≤ 1048576) (hcs : csB n ws = true) :
    Calls Try.prog 106 #[.int .i64 n, .slice a ws.length cap] w (QuotO w n ws) := by
  obtain ⟨⟨n0, n1⟩, hv⟩ := cs_yes hcs
  have h0 := h
  rcases h with rfl | ⟨g, o, rfl, hc⟩
  · exact absurd (vw_is hv).2.2 (by simp)
  · obtain ⟨s0, s1⟩ := ws_bd hv
    obtain ⟨i0, hi, hz0, hz1, hz2⟩ := info_parts infoInt
    have HZ := Lib.hid (all_bd (vw_is hv).1 (by omega))
    have HC := Lib.hid hc
    have HK := Lib.hid hcs
    have H0 := Lib.hid h0
    clear hc hv hcs h0
    go_enter Try.func106, Try.ntmps106
    go_wp2_with fail
    refine (stotal _ cap ws _ (ints_below H0.out (by go_grown)) hn HZ.out).mono ?_
    rintro e w' ⟨rfl, rfl⟩
    go_wp2_with fail
    go_loopw [5, 7] (fun v i wr => ∃ k : Nat, k ≤ ws.length ∧ i = .int .i64 k ∧ wr.ownsRow w.heap.size 3 1 v k (((qs n ws).take k).map (Value.int .i64)) ∧ Below w.heap.size w wr) (fun _ i _ => ws.length - (intOf i).toNat)
    case atStart => exact ⟨0, Nat.zero_le _, rfl, ⟨by simp, .inr ⟨w.heap.size, 0, #[], rfl, Nat.le_refl _, Go.Deep.blk_alloc_new _ _, Nat.le_refl _, by unfold maxLen; omega, rfl, rfl⟩⟩, by go_grown⟩
    case round =>
      obtain ⟨k, hk, rfl, hown, hB⟩ := hrel
      have hsz := hB.size
      by_cases hlt : k < ws.length
      · have hc0 := HC.out k hlt
        have hc := (hB.cell (p := ⟨g, o + k, none⟩) (World.block_lt_of_cell? w _ hc0)).trans hc0
        obtain ⟨z0, z1, z2, z3⟩ := q_bd HK.out hlt
        have ht := take_map (qs n ws) k (by rw [qs_len]; exact hlt)
        rw [qs_get n ws hlt] at ht
        clear hc0
        generalize ws.getD k 0 = z at hc z0 z1 z2 z3 ht
        have HT := Lib.hid ht
        clear ht
        go_wp2_with (first | (at_builtin; refine wpList_append_own _ rfl _ _ 27 rfl w.heap.size 3 i0 (.int .i64 0) 1 8 Try.underlying27 hi hz0 hz1 hz2 rfl (by decide) _ _ _ rfl (hown.alloc _) ⟨wr.heap.size, 0, none⟩ 1 1 [.int .i64 (n * z / ws.sum)] rfl rfl (cell_one_new _ _ _) (fun x hx => by simp at hx; subst hx; rfl) (by unfold maxLen; omega) (by omega) (by simp; omega) ?_; intro v' w3 hown' hgrow3 hnil3))
        have HR : Hid (w3.ownsRow w.heap.size 3 1 v' (k + 1) (((qs n ws).take (k + 1)).map (Value.int .i64)) ∧ Below w.heap.size w w3) := ⟨by rw [HT.out]; exact hown', (hB.alloc hsz _).grown hgrow3 (by simp; omega) (fun q hq => (hown.lt q hq).1)⟩
        clear hown hown' hgrow3 hnil3 hB
        go_roundw
        case rel => exact ⟨k + 1, by omega, by go_num, HR.out.1, HR.out.2⟩
        case measure => simp [intOf]; omega
      · have HW := Lib.hid hown
        have HB := Lib.hid hB
        clear hown hB
        go_wp2_with fail
        go_ret
        have hl := qs_len n ws
        have ho := HW.out
        rw [List.take_of_length_le (by omega), show k = (qs n ws).length from by omega] at ho
        rw [hl] at ho
        exact ⟨_, rfl, ho, HB.out⟩
theorem squotas (n : Int) (a : Option Addr) (cap : Nat) (ws : List Int) (w : World) (h : IsInts w a ws) (hn : ws.length ≤ 1048576) (hcs : csB n ws = true) :
    Calls Try.prog 106 #[.int .i64 n, .slice a ws.length cap] w (QuotS w n ws) :=
  (squotasO n a cap ws w h hn hcs).mono (by
    rintro e w' ⟨v, rfl, ho, hB⟩
    have hl := qs_len n ws
    rw [← hl] at ho
    obtain ⟨b, cp, hv, hin⟩ := own_ints ho
    exact ⟨b, cp, by rw [hl] at hv; exact congrArg Ending.returned hv, hin, hB⟩)
end Go.Proofs.Ytclpbbhhaclgbaa
namespace Go.Proofs.Ytclpbbhhaclgbaa

theorem getD_set (l : List Int) (b : Nat) (v : Int) (hb : b < l.length) (i : Nat) : (l.set b v).getD i 0 = if i = b then v else l.getD i 0 := by
  rw [List.getD_eq_getElem?_getD, List.getElem?_set, List.getD_eq_getElem?_getD]
  by_cases h : i = b
  · subst h; simp [hb]
  · rw [if_neg (fun e => h e.symm), if_neg h]
theorem sum_set (l : List Int) : ∀ (b : Nat) (v : Int), b < l.length → (l.set b v).sum = l.sum - l.getD b 0 + v := by
  induction l with
  | nil => intro b v h; simp at h
  | cons x l ih =>
    intro b v h
    cases b with
    | zero => simp; omega
    | succ b =>
      have := ih b v (by simpa using h)
      simp at this ⊢
      omega

/-- the first index that is beaten by none after it -/
def pickB (R : Nat → Nat → Bool) : Nat → Nat
  | 0 => 0
  | k + 1 => if R k (pickB R k) then k else pickB R k
theorem pickB_succ (R : Nat → Nat → Bool) (k : Nat) : pickB R (k + 1) = if R k (pickB R k) then k else pickB R k := rfl
theorem pickB_lt (R : Nat → Nat → Bool) (k : Nat) : pickB R (k + 1) < k + 1 := by
  induction k with
  | zero => rw [pickB_succ]; split <;> simp [pickB]
  | succ k ih => rw [pickB_succ]; split <;> omega
theorem pickB_lt' {R : Nat → Nat → Bool} {k : Nat} (h : 0 < k) : pickB R k < k := by
  obtain ⟨j, rfl⟩ : ∃ j, k = j + 1 := ⟨k - 1, by omega⟩
  exact pickB_lt R j
theorem pickB_max (R : Nat → Nat → Bool) (ge : Nat → Nat → Prop) (refl : ∀ i, ge i i) (hn : ∀ i b, R i b = false → ge b i) (ht : ∀ i b c, R i b = true → ge b c → ge i c) : ∀ k i, i < k → ge (pickB R k) i := by
  intro k
  induction k with
  | zero => intro i h; omega
  | succ k ih =>
    intro i h
    rw [pickB_succ]
    cases hR : R k (pickB R k) with
    | true =>
      simp only [if_true]
      by_cases e : i = k
      · subst e; exact refl _
      · exact ht _ _ _ hR (ih i (by omega))
    | false =>
      simp only [Bool.false_eq_true, if_false]
      by_cases e : i = k
      · subst e; exact hn _ _ hR
      · exact ih i (by omega)
/-- the same, begun with none -/
def pickS (ok : Nat → Bool) (R : Nat → Nat → Bool) : Nat → Int
  | 0 => -1
  | k + 1 => if ok k && (decide (pickS ok R k < 0) || R k (pickS ok R k).toNat) then k else pickS ok R k
theorem pickS_is (ok : Nat → Bool) (R : Nat → Nat → Bool) (n : Nat) (h1 : ∀ i b, i < n → b < n → ok i = true → ok b = false → R i b = true) (h2 : ∀ i b, i < n → b < n → ok i = false → R i b = false) :
    ∀ k, k ≤ n → (pickS ok R k = -1 ∧ pickB R k = 0 ∧ ∀ j, j < k → ok j = false) ∨ (pickS ok R k = (pickB R k : Nat) ∧ ok (pickB R k) = true ∧ pickB R k < k) := by
  intro k
  induction k with
  | zero => intro _; exact .inl ⟨rfl, rfl, fun j h => by omega⟩
  | succ k ih =>
    intro hk
    rw [pickB_succ]
    show ((if ok k && (decide (pickS ok R k < 0) || R k (pickS ok R k).toNat) then (k : Int) else pickS ok R k) = -1 ∧ _ ∧ _) ∨ ((if ok k && (decide (pickS ok R k < 0) || R k (pickS ok R k).toNat) then (k : Int) else pickS ok R k) = _ ∧ _ ∧ _)
    rcases ih (by omega) with ⟨a, b, c⟩ | ⟨a, b, c⟩
    · rw [a, b]
      cases ho : ok k with
      | true =>
        right
        by_cases h0 : k = 0
        · subst h0; simp [ho]
        · rw [h1 k 0 (by omega) (by omega) ho (c 0 (by omega))]; simp [ho]
      | false =>
        left
        rw [h2 k 0 (by omega) (by omega) ho]
        refine ⟨by simp, by simp, fun j hj => ?_⟩
        by_cases e : j = k
        · subst e; exact ho
        · exact c j (by omega)
    · right
      rw [a]
      have e : decide (((pickB R k : Nat) : Int) < 0) = false := by simp
      rw [e, Int.toNat_natCast]
      cases ho : ok k with
      | true =>
        cases hR : R k (pickB R k) with
        | true => simp [ho]
        | false => simp [b]; omega
      | false =>
        rw [h2 k _ (by omega) (by omega) ho]
        simp [b]; omega

/-- the remainders -/
def rsts (n : Int) (ws : List Int) : List Int := ws.map fun z => n * z % ws.sum
theorem rsts_len (n : Int) (ws : List Int) : (rsts n ws).length = ws.length := by unfold rsts; simp
theorem rsts_get (n : Int) (ws : List Int) {k : Nat} (h : k < ws.length) : (rsts n ws).getD k 0 = n * ws.getD k 0 % ws.sum := by
  unfold rsts
  rw [List.getD_eq_getElem?_getD, List.getD_eq_getElem?_getD, List.getElem?_map, List.getElem?_eq_getElem h]; rfl
theorem sum_parts (n S : Int) : ∀ ws : List Int, n * ws.sum = S * (ws.map fun z => n * z / S).sum + (ws.map fun z => n * z % S).sum := by
  intro ws
  induction ws with
  | nil => simp
  | cons x l ih =>
    simp only [List.map_cons, List.sum_cons, Int.mul_add]
    have := Int.mul_ediv_add_emod (n * x) S
    omega
theorem qr_sum (n : Int) (ws : List Int) : n * ws.sum = ws.sum * (qs n ws).sum + (rsts n ws).sum := sum_parts n ws.sum ws

def moreB (l : List Int) (i b : Nat) : Bool := decide (l.getD i 0 > l.getD b 0)
def stepR (s : List Int × List Int) : List Int × List Int :=
  (s.1.set (pickB (moreB s.2) s.2.length) (s.1.getD (pickB (moreB s.2) s.2.length) 0 + 1), s.2.set (pickB (moreB s.2) s.2.length) (-1))
def restTo (n : Int) (ws : List Int) : Nat → List Int × List Int
  | 0 => (qs n ws, rsts n ws)
  | j + 1 => stepR (restTo n ws j)
theorem restTo_len (n : Int) (ws : List Int) : ∀ j, (restTo n ws j).1.length = ws.length ∧ (restTo n ws j).2.length = ws.length := by
  intro j
  induction j with
  | zero => exact ⟨qs_len n ws, rsts_len n ws⟩
  | succ j ih => exact ⟨by show (List.set _ _ _).length = _; simp [ih.1], by show (List.set _ _ _).length = _; simp [ih.2]⟩
theorem moreB_max (l : List Int) {i : Nat} (h : i < l.length) : l.getD i 0 ≤ l.getD (pickB (moreB l) l.length) 0 := by
  refine pickB_max (moreB l) (fun b i => l.getD i 0 ≤ l.getD b 0) (fun i => Int.le_refl _) (fun i b h => ?_) (fun i b c h h' => ?_) l.length i h
  · unfold moreB at h; simp only [decide_eq_false_iff_not] at h; omega
  · unfold moreB at h; simp only [decide_eq_true_eq] at h; omega
/-- the units that are left -/
def leftOf (n : Int) (ws : List Int) : Nat := (n - (qs n ws).sum).toNat
def sr (n : Int) (ws : List Int) : List Int := (restTo n ws (leftOf n ws)).1
theorem sr_len (n : Int) (ws : List Int) : (sr n ws).length = ws.length := (restTo_len n ws _).1

def posS (l : List Int) : Int := (l.map fun z => if z < 0 then 0 else z).sum
theorem posS_pos {l : List Int} (h : 0 < posS l) : ∃ i, i < l.length ∧ 0 < l.getD i 0 := by
  unfold posS at h
  induction l with
  | nil => simp at h
  | cons x l ih =>
    by_cases hx : 0 < x
    · exact ⟨0, by simp, by simpa using hx⟩
    · simp only [List.map_cons, List.sum_cons] at h
      obtain ⟨i, hi, hg⟩ := ih (by split at h <;> omega)
      exact ⟨i + 1, by simpa using hi, by simpa using hg⟩
theorem posS_set {l : List Int} {b : Nat} (h : b < l.length) (h0 : 0 ≤ l.getD b 0) : posS (l.set b (-1)) = posS l - l.getD b 0 := by
  unfold posS
  rw [List.map_set, sum_set _ _ _ (by simpa using h)]
  have e : (l.map fun z => if z < 0 then 0 else z).getD b 0 = l.getD b 0 := by
    rw [List.getD_eq_getElem?_getD, List.getElem?_map, List.getElem?_eq_getElem h]
    rw [List.getD_eq_getElem?_getD, List.getElem?_eq_getElem h] at h0 ⊢
    simp at h0 ⊢; omega
  rw [e]; simp
theorem posS_all {l : List Int} (h : ∀ i, i < l.length → 0 ≤ l.getD i 0) : posS l = l.sum := by
  unfold posS
  induction l with
  | nil => rfl
  | cons x l ih =>
    have h0 := h 0 (by simp)
    have := ih (fun i hi => by simpa using h (i + 1) (by simpa using hi))
    simp only [List.getD_cons_zero] at h0
    simp only [List.map_cons, List.sum_cons, this, if_neg (by omega : ¬ x < 0)]

/-- what holds after j units -/
structure Rest (n : Int) (ws : List Int) (j : Nat) : Prop where
  each : ∀ i, i < ws.length → ((restTo n ws j).1.getD i 0 = (qs n ws).getD i 0 ∧ (restTo n ws j).2.getD i 0 = (rsts n ws).getD i 0) ∨ ((restTo n ws j).1.getD i 0 = (qs n ws).getD i 0 + 1 ∧ (restTo n ws j).2.getD i 0 = -1 ∧ 0 < (rsts n ws).getD i 0)
  order : ∀ i k, i < ws.length → k < ws.length → (restTo n ws j).2.getD i 0 = -1 → (restTo n ws j).2.getD k 0 ≠ -1 → (rsts n ws).getD k 0 ≤ (rsts n ws).getD i 0
  sum : (restTo n ws j).1.sum = (qs n ws).sum + j
  pos : ws.sum * ((leftOf n ws : Int) - j) ≤ posS (restTo n ws j).2
theorem rsts_bd {n : Int} {ws : List Int} (hcs : csB n ws = true) {i : Nat} (hi : i < ws.length) : 0 ≤ (rsts n ws).getD i 0 ∧ (rsts n ws).getD i 0 < ws.sum ∧ ws.sum ≤ 12000000 := by
  obtain ⟨s0, s1⟩ := ws_bd (cs_yes hcs).2
  rw [rsts_get n ws hi]
  exact ⟨Int.emod_nonneg _ (by omega), Int.emod_lt_of_pos _ (by omega), s1⟩
theorem list_nonneg {l : List Int} (h : ∀ i, i < l.length → 0 ≤ l.getD i 0) : 0 ≤ l.sum := by
  induction l with
  | nil => simp
  | cons x l ih =>
    have h0 := h 0 (by simp)
    have := ih (fun i hi => by simpa using h (i + 1) (by simpa using hi))
    simp only [List.getD_cons_zero] at h0
    rw [List.sum_cons]; omega
theorem q_sum {n : Int} {ws : List Int} (hcs : csB n ws = true) : 0 ≤ (qs n ws).sum ∧ (qs n ws).sum ≤ n := by
  obtain ⟨s0, s1⟩ := ws_bd (cs_yes hcs).2
  have hq : 0 ≤ (qs n ws).sum := list_nonneg (fun i hi => by
    rw [qs_len] at hi
    rw [qs_get n ws hi]
    exact Int.ediv_nonneg (q_bd hcs hi).2.2.1 (by omega))
  have hr : 0 ≤ (rsts n ws).sum := list_nonneg (fun i hi => by rw [rsts_len] at hi; exact (rsts_bd hcs hi).1)
  have e := qr_sum n ws
  refine ⟨hq, ?_⟩
  have : ws.sum * (qs n ws).sum ≤ ws.sum * n := by rw [Int.mul_comm ws.sum n]; omega
  exact Int.le_of_mul_le_mul_left this (by omega)
theorem left_is {n : Int} {ws : List Int} (hcs : csB n ws = true) : (leftOf n ws : Int) = n - (qs n ws).sum := by
  have := q_sum hcs
  unfold leftOf; omega
theorem q_le {n : Int} {ws : List Int} (hcs : csB n ws = true) {i : Nat} (hi : i < ws.length) : 0 ≤ (qs n ws).getD i 0 ∧ (qs n ws).getD i 0 ≤ 500000 := by
  obtain ⟨s0, s1⟩ := ws_bd (cs_yes hcs).2
  obtain ⟨a, b, c, d⟩ := q_bd hcs hi
  rw [qs_get n ws hi]
  exact ⟨Int.ediv_nonneg c (by omega), Int.le_trans (Int.ediv_le_self _ c) d⟩
theorem ws_ne {ws : List Int} (h : vwB ws = true) : 0 < ws.length := by
  have := (ws_bd h).1
  cases ws with
  | nil => simp at this
  | cons x l => simp
theorem rest_best {n : Int} {ws : List Int} (hcs : csB n ws = true) {j : Nat} (h : Rest n ws j) (hj : j < leftOf n ws) :
    pickB (moreB (restTo n ws j).2) ws.length < ws.length ∧ 0 < (restTo n ws j).2.getD (pickB (moreB (restTo n ws j).2) ws.length) 0 := by
  obtain ⟨s0, s1⟩ := ws_bd (cs_yes hcs).2
  have hl := (restTo_len n ws j).2
  have hp := h.pos
  have : 0 < posS (restTo n ws j).2 := by
    have : ws.sum * 1 ≤ ws.sum * ((leftOf n ws : Int) - j) := Int.mul_le_mul_of_nonneg_left (by omega) (by omega)
    omega
  obtain ⟨i, hi, hg⟩ := posS_pos this
  have hm := moreB_max _ hi
  rw [hl] at hm
  exact ⟨pickB_lt' (by omega), by omega⟩
theorem restTo_succ1 (n : Int) (ws : List Int) (j : Nat) : (restTo n ws (j + 1)).1 = (restTo n ws j).1.set (pickB (moreB (restTo n ws j).2) ws.length) ((restTo n ws j).1.getD (pickB (moreB (restTo n ws j).2) ws.length) 0 + 1) := by
  show (stepR (restTo n ws j)).1 = _
  unfold stepR
  rw [(restTo_len n ws j).2]
theorem restTo_succ2 (n : Int) (ws : List Int) (j : Nat) : (restTo n ws (j + 1)).2 = (restTo n ws j).2.set (pickB (moreB (restTo n ws j).2) ws.length) (-1) := by
  show (stepR (restTo n ws j)).2 = _
  unfold stepR
  rw [(restTo_len n ws j).2]
theorem rest_is {n : Int} {ws : List Int} (hcs : csB n ws = true) : ∀ j, j ≤ leftOf n ws → Rest n ws j := by
  obtain ⟨s0, s1⟩ := ws_bd (cs_yes hcs).2
  intro j
  induction j with
  | zero =>
    intro _
    refine ⟨fun i hi => .inl ⟨rfl, rfl⟩, fun i k hi hk h => ?_, by simp [restTo], ?_⟩
    · have : (rsts n ws).getD i 0 = -1 := h
      have := rsts_bd hcs hi
      omega
    · show _ ≤ posS (rsts n ws)
      rw [posS_all (fun i hi => by rw [rsts_len] at hi; exact (rsts_bd hcs hi).1), left_is hcs]
      have := qr_sum n ws
      rw [Int.mul_comm n] at this
      simp only [Int.mul_sub, Int.natCast_zero, Int.mul_zero]
      omega
  | succ j ih =>
    intro hj
    have H := ih (by omega)
    obtain ⟨hb, hpos⟩ := rest_best hcs H (by omega)
    obtain ⟨l1, l2⟩ := restTo_len n ws j
    have hmax := fun i (hi : i < ws.length) => moreB_max (restTo n ws j).2 (i := i) (by omega)
    rw [l2] at hmax
    have e1 := restTo_succ1 n ws j
    have e2 := restTo_succ2 n ws j
    generalize pickB (moreB (restTo n ws j).2) ws.length = b at hb hpos hmax e1 e2
    have g1 := fun i => getD_set (restTo n ws j).1 b ((restTo n ws j).1.getD b 0 + 1) (by omega) i
    have g2 := fun i => getD_set (restTo n ws j).2 b (-1) (by omega) i
    rw [← e1] at g1
    rw [← e2] at g2
    have hbe : (restTo n ws j).1.getD b 0 = (qs n ws).getD b 0 ∧ (restTo n ws j).2.getD b 0 = (rsts n ws).getD b 0 := by
      rcases H.each b hb with h | h
      · exact h
      · omega
    refine ⟨fun i hi => ?_, fun i k hi hk h1 h2 => ?_, ?_, ?_⟩
    · rw [g1 i, g2 i]
      by_cases e : i = b
      · subst e; rw [if_pos rfl, if_pos rfl]; right; refine ⟨by omega, rfl, by omega⟩
      · rw [if_neg e, if_neg e]; exact H.each i hi
    · rw [g2 i] at h1
      rw [g2 k] at h2
      have ek : k ≠ b := fun e => h2 (by rw [if_pos e])
      rw [if_neg ek] at h2
      have hk' : (restTo n ws j).2.getD k 0 = (rsts n ws).getD k 0 := by
        rcases H.each k hk with h | h
        · exact h.2
        · exact absurd h.2.1 h2
      by_cases e : i = b
      · subst e; have := hmax k hk; omega
      · rw [if_neg e] at h1; exact H.order i k hi hk h1 h2
    · rw [e1, sum_set _ _ _ (by omega), H.sum]; simp; omega
    · rw [e2, posS_set (by omega) (by omega)]
      have hp := H.pos
      have hr := (rsts_bd hcs hb).2.1
      have e : ws.sum * ((leftOf n ws : Int) - (j + 1 : Nat)) = ws.sum * ((leftOf n ws : Int) - j) - ws.sum := by
        rw [show ((leftOf n ws : Int) - (j + 1 : Nat)) = ((leftOf n ws : Int) - j) - 1 by omega, Int.mul_sub]; omega
      rw [e]; omega

/-- averages -/
def avgB (step : Int) (ws gs : List Int) (i b : Nat) : Bool := decide (ws.getD i 0 * (step * gs.getD b 0 + 1) > ws.getD b 0 * (step * gs.getD i 0 + 1))
theorem avgB_true {step : Int} {ws gs : List Int} {i b : Nat} (h : avgB step ws gs i b = true) : ws.getD b 0 * (step * gs.getD i 0 + 1) < ws.getD i 0 * (step * gs.getD b 0 + 1) := by
  unfold avgB at h; simpa using h
theorem avgB_false {step : Int} {ws gs : List Int} {i b : Nat} (h : avgB step ws gs i b = false) : ws.getD i 0 * (step * gs.getD b 0 + 1) ≤ ws.getD b 0 * (step * gs.getD i 0 + 1) := by
  unfold avgB at h; simpa using h
def avgTo (step : Int) (ws : List Int) : Nat → List Int
  | 0 => List.replicate ws.length 0
  | j + 1 => (avgTo step ws j).set (pickB (avgB step ws (avgTo step ws j)) ws.length) ((avgTo step ws j).getD (pickB (avgB step ws (avgTo step ws j)) ws.length) 0 + 1)
theorem avgTo_succ (step : Int) (ws : List Int) (j : Nat) : avgTo step ws (j + 1) = (avgTo step ws j).set (pickB (avgB step ws (avgTo step ws j)) ws.length) ((avgTo step ws j).getD (pickB (avgB step ws (avgTo step ws j)) ws.length) 0 + 1) := rfl
theorem avgTo_len (step : Int) (ws : List Int) : ∀ j, (avgTo step ws j).length = ws.length := by
  intro j
  induction j with
  | zero => simp [avgTo]
  | succ j ih => rw [avgTo_succ]; simp [ih]
def sa (step n : Int) (ws : List Int) : List Int := avgTo step ws n.toNat
theorem sa_len (step n : Int) (ws : List Int) : (sa step n ws).length = ws.length := avgTo_len step ws _
/-- what holds after j units -/
structure Avg (step : Int) (ws : List Int) (j : Nat) : Prop where
  bd : ∀ i, i < ws.length → 0 ≤ (avgTo step ws j).getD i 0 ∧ (avgTo step ws j).getD i 0 ≤ j
  zero : ∀ i, i < ws.length → ws.getD i 0 = 0 → (avgTo step ws j).getD i 0 = 0
  sum : (avgTo step ws j).sum = j
theorem all_get {ws : List Int} (h : vwB ws = true) {i : Nat} (hi : i < ws.length) : 0 ≤ ws.getD i 0 ∧ ws.getD i 0 ≤ 1000 := (allB_iff ws 1000).1 (vw_is h).1 _ (getD_mem hi)
theorem pos_some {ws : List Int} (h : vwB ws = true) : ∃ i, i < ws.length ∧ 0 < ws.getD i 0 := by
  have e := posS_all (fun i hi => (all_get h (i := i) hi).1)
  exact posS_pos (by rw [e]; exact (ws_bd h).1)
theorem fac_bd {step g j : Int} (h : 1 ≤ step ∧ step ≤ 2) (hg : 0 ≤ g ∧ g ≤ j) (hj : j ≤ 1000) : 0 < step * g + 1 ∧ step * g + 1 ≤ 2001 := by
  have a := Int.mul_nonneg (a := step) (by omega) hg.1
  have b : step * g ≤ 2 * 1000 := Int.mul_le_mul h.2 (by omega) hg.1 (by omega)
  omega
theorem avg_trans {x y z a b c : Int} (hy : 0 < b) (ha : 0 < a) (hc : 0 < c)(h1 : x * b ≥ y * a) (h2 : y * c ≥ z * b) : x * c ≥ z * a := by
  have k1 : y * a * c ≤ x * b * c := Int.mul_le_mul_of_nonneg_right h1 (by omega)
  have k2 : z * b * a ≤ y * c * a := Int.mul_le_mul_of_nonneg_right h2 (by omega)
  have k3 : z * a * b ≤ x * c * b := by
    rw [Int.mul_right_comm z a b, Int.mul_right_comm x c b]
    rw [Int.mul_right_comm y c a] at k2
    omega
  exact Int.le_of_mul_le_mul_right k3 hy
theorem avg_max {step : Int} {ws : List Int} {j : Nat} (hv : vwB ws = true) (hs : 1 ≤ step ∧ step ≤ 2) (hj : j ≤ 1000) (H : Avg step ws j) {i : Nat} (hi : i < ws.length) :
    ws.getD i 0 * (step * (avgTo step ws j).getD (pickB (avgB step ws (avgTo step ws j)) ws.length) 0 + 1) ≤ ws.getD (pickB (avgB step ws (avgTo step ws j)) ws.length) 0 * (step * (avgTo step ws j).getD i 0 + 1) := by
  have hb := fun i (hi : i < ws.length) => fac_bd hs (H.bd i hi) (by omega)
  have hall := fun i (hi : i < ws.length) => all_get hv hi
  have key : ∀ k, k ≤ ws.length → ∀ i, i < k → ws.getD i 0 * (step * (avgTo step ws j).getD (pickB (avgB step ws (avgTo step ws j)) k) 0 + 1) ≤ ws.getD (pickB (avgB step ws (avgTo step ws j)) k) 0 * (step * (avgTo step ws j).getD i 0 + 1) := by
    intro k
    induction k with
    | zero => intro _ i h; omega
    | succ k ih =>
      intro hk i hik
      rw [pickB_succ]
      cases hR : avgB step ws (avgTo step ws j) k (pickB (avgB step ws (avgTo step ws j)) k) with
      | true =>
        simp only [if_true]
        have hR := avgB_true hR
        by_cases e : i = k
        · subst e; exact Int.le_refl _
        · have hp : pickB (avgB step ws (avgTo step ws j)) k < k := pickB_lt' (by omega)
          have := ih (by omega) i (by omega)
          exact avg_trans (hb _ (by omega)).1 (hb _ (by omega)).1 (hb _ (by omega)).1 (Int.le_of_lt hR) this
      | false =>
        simp only [Bool.false_eq_true, if_false]
        have hR := avgB_false hR
        by_cases e : i = k
        · subst e; exact hR
        · exact ih (by omega) i (by omega)
  exact key ws.length (Nat.le_refl _) i hi
theorem avg_pos {step : Int} {ws : List Int} {j : Nat} (hv : vwB ws = true) (hs : 1 ≤ step ∧ step ≤ 2) (hj : j ≤ 1000) (H : Avg step ws j) :
    pickB (avgB step ws (avgTo step ws j)) ws.length < ws.length ∧ 0 < ws.getD (pickB (avgB step ws (avgTo step ws j)) ws.length) 0 := by
  have hp : pickB (avgB step ws (avgTo step ws j)) ws.length < ws.length := pickB_lt' (ws_ne hv)
  refine ⟨hp, ?_⟩
  obtain ⟨i, hi, hw⟩ := pos_some hv
  have hm := avg_max hv hs hj H hi
  have h1 := (fac_bd hs (H.bd _ hp) (by omega)).1
  have h2 := (fac_bd hs (H.bd _ hi) (by omega)).1
  have h3 := Int.mul_pos hw h1
  by_cases h : 0 < ws.getD (pickB (avgB step ws (avgTo step ws j)) ws.length) 0
  · exact h
  · have : ws.getD (pickB (avgB step ws (avgTo step ws j)) ws.length) 0 = 0 := by have := (all_get hv hp).1; omega
    rw [this, Int.zero_mul] at hm; omega
theorem avg_is {step : Int} {ws : List Int} (hv : vwB ws = true) (hs : 1 ≤ step ∧ step ≤ 2) : ∀ j, j ≤ 1000 → Avg step ws j := by
  intro j
  induction j with
  | zero =>
    intro _
    have hz : ∀ i, (avgTo step ws 0).getD i 0 = 0 := fun i => by
      show (List.replicate ws.length (0 : Int)).getD i 0 = 0
      rw [List.getD_eq_getElem?_getD, List.getElem?_replicate]; split <;> rfl
    refine ⟨fun i hi => ?_, fun i hi _ => hz i, ?_⟩
    · rw [hz i]; omega
    · show (List.replicate ws.length (0 : Int)).sum = _
      simp
  | succ j ih =>
    intro hj
    have H := ih (by omega)
    obtain ⟨hp, hw⟩ := avg_pos hv hs (by omega) H
    have hl := avgTo_len step ws j
    have e := avgTo_succ step ws j
    generalize pickB (avgB step ws (avgTo step ws j)) ws.length = b at hp hw e
    have g1 := fun i => getD_set (avgTo step ws j) b ((avgTo step ws j).getD b 0 + 1) (by omega) i
    rw [← e] at g1
    refine ⟨fun i hi => ?_, fun i hi h0 => ?_, ?_⟩
    · rw [g1 i]
      have hb := H.bd b hp
      have hi' := H.bd i hi
      split <;> omega
    · rw [g1 i]
      by_cases eb : i = b
      · subst eb; omega
      · rw [if_neg eb]; exact H.zero i hi h0
    · rw [e, sum_set _ _ _ (by omega), H.sum]; simp; omega
end Go.Proofs.Ytclpbbhhaclgbaa
namespace Go.Proofs.Ytclpbbhhaclgbaa
open Go.RowKit

theorem sum_bdm (zs : List Int) (m : Int) (h : allB zs m = true) : ∀ k, k ≤ zs.length → 0 ≤ (zs.take k).sum ∧ (zs.take k).sum ≤ m * (k : Int) := by
  intro k
  induction k with
  | zero => intro _; simp
  | succ k ih =>
    intro hk
    have h1 := ih (by omega)
    have h2 := (allB_iff zs m).1 h _ (getD_mem (k := k) (by omega))
    rw [take_sum zs k (by omega)]
    have h3 : m * ((k + 1 : Nat) : Int) = m * (k : Int) + m := by rw [Int.natCast_add, Int.mul_add]; simp
    rw [h3]; omega
theorem sum_all {zs : List Int} {m : Int} (h : allB zs m = true) : 0 ≤ zs.sum ∧ zs.sum ≤ m * (zs.length : Int) := by
  have := sum_bdm zs m h zs.length (Nat.le_refl _)
  rwa [List.take_of_length_le (Nat.le_refl _)] at this

def absd (a b : Int) : Int := if a < b then b - a else a - b
theorem absd_lt {a b : Int} (h : a < b) : absd a b = b - a := if_pos h
theorem absd_ge {a b : Int} (h : ¬ a < b) : absd a b = a - b := if_neg h
def dterm (gs ws : List Int) (k : Nat) : Int := absd (gs.getD k 0 * ws.sum) (ws.getD k 0 * gs.sum)
def distTo (gs ws : List Int) : Nat → Int
  | 0 => 0
  | k + 1 => distTo gs ws k + dterm gs ws k
/-- what DistanceOf returns -/
def distI (gs ws : List Int) : Int := if vwB ws && decide (gs.length = ws.length) && allB gs 500 && decide (gs.sum ≤ 500) then distTo gs ws gs.length else -1
theorem dist_no1 {gs ws : List Int} (h : vwB ws = false) : distI gs ws = -1 := by unfold distI; rw [h]; rfl
theorem dist_no2 {gs ws : List Int} (h : gs.length ≠ ws.length) : distI gs ws = -1 := by unfold distI; rw [decide_eq_false h]; simp
theorem dist_no3 {gs ws : List Int} (h : allB gs 500 = false) : distI gs ws = -1 := by unfold distI; rw [h]; simp
theorem dist_no4 {gs ws : List Int} (h : 500 < gs.sum) : distI gs ws = -1 := by unfold distI; rw [decide_eq_false (by omega : ¬ gs.sum ≤ 500)]; simp
theorem dist_yes {gs ws : List Int} (h1 : vwB ws = true) (h2 : gs.length = ws.length) (h3 : allB gs 500 = true) (h4 : gs.sum ≤ 500) : distI gs ws = distTo gs ws gs.length := by
  unfold distI; rw [h1, h3, decide_eq_true h2, decide_eq_true h4]; rfl
/-- what holds of valid divisions -/
structure Div (gs ws : List Int) : Prop where
  len : gs.length = ws.length
  le : ws.length ≤ 12
  g : allB gs 500 = true
  w : allB ws 1000 = true
  gs0 : 0 ≤ gs.sum
  gs1 : gs.sum ≤ 500
  ws0 : 0 ≤ ws.sum
  ws1 : ws.sum ≤ 12000
theorem div_of {gs ws : List Int} (h1 : vwB ws = true) (h2 : gs.length = ws.length) (h3 : allB gs 500 = true) (h4 : gs.sum ≤ 500) : Div gs ws := by
  obtain ⟨a, b, c⟩ := vw_is h1
  have e := sum_all a
  exact ⟨h2, b, h3, a, (sum_all h3).1, h4, e.1, by omega⟩
theorem prod_bd {gs ws : List Int} (d : Div gs ws) {k : Nat} (hk : k < gs.length) : 0 ≤ gs.getD k 0 ∧ gs.getD k 0 ≤ 500 ∧ 0 ≤ ws.getD k 0 ∧ ws.getD k 0 ≤ 1000 ∧ 0 ≤ gs.getD k 0 * ws.sum ∧ gs.getD k 0 * ws.sum ≤ 6000000 ∧ 0 ≤ ws.getD k 0 * gs.sum ∧ ws.getD k 0 * gs.sum ≤ 500000 := by
  have a := (allB_iff gs 500).1 d.g _ (getD_mem hk)
  have b := (allB_iff ws 1000).1 d.w _ (getD_mem (k := k) (by rw [← d.len]; exact hk))
  exact ⟨a.1, a.2, b.1, b.2, Int.mul_nonneg a.1 d.ws0, Int.le_trans (Int.mul_le_mul a.2 d.ws1 d.ws0 (by omega)) (by omega), Int.mul_nonneg b.1 d.gs0, Int.le_trans (Int.mul_le_mul b.2 d.gs1 d.gs0 (by omega)) (by omega)⟩
theorem dist_bd {gs ws : List Int} (d : Div gs ws) : ∀ k, k ≤ gs.length → 0 ≤ distTo gs ws k ∧ distTo gs ws k ≤ 7000000 * (k : Int) := by
  intro k
  induction k with
  | zero => intro _; exact ⟨Int.le_refl _, by simp [distTo]⟩
  | succ k ih =>
    intro hk
    have h1 := ih (by omega)
    obtain ⟨_, _, _, _, a, b, c, e⟩ := prod_bd d (k := k) (by omega)
    show 0 ≤ distTo gs ws k + absd _ _ ∧ distTo gs ws k + absd _ _ ≤ _
    unfold absd
    split <;> omega

theorem dterm_comm (gs ws : List Int) (k : Nat) : distTo gs ws (k + 1) = distTo gs ws k + absd (gs.getD k 0 * ws.sum) (gs.sum * ws.getD k 0) := by
  rw [Int.mul_comm gs.sum]; rfl
end Go.Proofs.Ytclpbbhhaclgbaa
namespace Go.Proofs.Ytclpbbhhaclgbaa

/-- P10: how many of the first k weights are more than 0 -/
def posTo (ws : List Int) : Nat → Int
  | 0 => 0
  | k + 1 => posTo ws k + if 0 < ws.getD k 0 then 1 else 0
theorem posTo_succ (ws : List Int) (k : Nat) : posTo ws (k + 1) = posTo ws k + if 0 < ws.getD k 0 then 1 else 0 := rfl
theorem posTo_bd (ws : List Int) : ∀ k, 0 ≤ posTo ws k ∧ posTo ws k ≤ (k : Int) := by
  intro k
  induction k with
  | zero => exact ⟨Int.le_refl _, Int.le_refl _⟩
  | succ k ih => rw [posTo_succ]; split <;> omega
theorem posTo_mem (ws : List Int) {i : Nat} (h : 0 < ws.getD i 0) : ∀ k, i < k → 1 ≤ posTo ws k := by
  intro k
  induction k with
  | zero => intro hk; omega
  | succ k ih =>
    intro hk
    have := posTo_bd ws k
    rw [posTo_succ]
    by_cases e : i = k
    · subst e; rw [if_pos h]; omega
    · have := ih (by omega); split <;> omega
theorem take_all {l : List Int} {n : Nat} (h : l.length = n) : l.take n = l := List.take_of_length_le (by omega)
theorem rest_pos {n : Int} {ws : List Int} (hcs : csB n ws = true) : ∀ k, k ≤ ws.length → ((rsts n ws).take k).sum ≤ (ws.sum - 1) * posTo ws k := by
  have hl := rsts_len n ws
  intro k
  induction k with
  | zero => intro _; simp [posTo]
  | succ k ih =>
    intro hk
    have h1 := ih (by omega)
    have hb := rsts_bd hcs (i := k) (by omega)
    have hw := all_get (cs_yes hcs).2 (i := k) (by omega)
    rw [take_sum _ k (by omega), posTo_succ, Int.mul_add]
    by_cases h : 0 < ws.getD k 0
    · rw [if_pos h]; omega
    · have e : ws.getD k 0 = 0 := by omega
      have : (rsts n ws).getD k 0 = 0 := by rw [rsts_get n ws (by omega), e]; simp
      rw [if_neg h]; omega
theorem left_lt {n : Int} {ws : List Int} (hcs : csB n ws = true) : n - (qs n ws).sum < posTo ws ws.length := by
  obtain ⟨s0, s1⟩ := ws_bd (cs_yes hcs).2
  obtain ⟨i, hi, hp⟩ := pos_some (cs_yes hcs).2
  have h1 := posTo_mem ws hp ws.length hi
  have h2 := rest_pos hcs ws.length (Nat.le_refl _)
  rw [take_all (rsts_len n ws)] at h2
  have h3 := qr_sum n ws
  generalize posTo ws ws.length = p at *
  by_cases h : n - (qs n ws).sum < p
  · exact h
  · have h4 : ws.sum * p ≤ ws.sum * (n - (qs n ws).sum) := Int.mul_le_mul_of_nonneg_left (by omega) (by omega)
    rw [Int.mul_sub, Int.mul_comm ws.sum n] at h4
    rw [Int.sub_mul] at h2
    omega

/-- P11 -/
theorem sr_each {n : Int} {ws : List Int} (hcs : csB n ws = true) {i : Nat} (hi : i < ws.length) :
    (qs n ws).getD i 0 ≤ (sr n ws).getD i 0 ∧ (sr n ws).getD i 0 ≤ (qs n ws).getD i 0 + 1 ∧ (ws.getD i 0 = 0 → (sr n ws).getD i 0 = 0) := by
  have H := rest_is hcs (leftOf n ws) (Nat.le_refl _)
  have he := H.each i hi
  have hz : ws.getD i 0 = 0 → (qs n ws).getD i 0 = 0 ∧ (rsts n ws).getD i 0 = 0 := fun e => by
    rw [qs_get n ws hi, rsts_get n ws hi, e]; simp
  unfold sr
  rcases he with ⟨a, b⟩ | ⟨a, b, c⟩
  · exact ⟨by omega, by omega, fun e => by have := hz e; omega⟩
  · exact ⟨by omega, by omega, fun e => by have := hz e; omega⟩
theorem sr_sum {n : Int} {ws : List Int} (hcs : csB n ws = true) : (sr n ws).sum = n := by
  have H := (rest_is hcs (leftOf n ws) (Nat.le_refl _)).sum
  have := left_is hcs
  unfold sr; omega
theorem q_le_n {n : Int} {ws : List Int} (hcs : csB n ws = true) {i : Nat} (hi : i < ws.length) : 0 ≤ (qs n ws).getD i 0 ∧ (qs n ws).getD i 0 ≤ n := by
  obtain ⟨s0, s1⟩ := ws_bd (cs_yes hcs).2
  have hq := q_le hcs hi
  have hw := all_get (cs_yes hcs).2 hi
  have hle : ws.getD i 0 ≤ ws.sum := by
    have := posS_all (l := ws) (fun i hi => (all_get (cs_yes hcs).2 hi).1)
    have h2 := posS_set (l := ws) hi hw.1
    have h3 : 0 ≤ posS (ws.set i (-1)) := by
      unfold posS
      refine list_nonneg (fun j hj => ?_)
      have : ∀ l : List Int, ∀ j, 0 ≤ (l.map fun z => if z < 0 then 0 else z).getD j 0 := fun l j => by
        rw [List.getD_eq_getElem?_getD, List.getElem?_map]
        cases l[j]? with
        | none => simp
        | some z => simp; split <;> omega
      exact this _ j
    omega
  rw [qs_get n ws hi] at hq ⊢
  refine ⟨hq.1, ?_⟩
  have h1 : n * ws.getD i 0 ≤ n * ws.sum := Int.mul_le_mul_of_nonneg_left hle (cs_yes hcs).1.1
  have h2 := Int.ediv_le_ediv (c := ws.sum) (by omega) h1
  rwa [Int.mul_ediv_cancel _ (by omega)] at h2
theorem sr_bd {n : Int} {ws : List Int} (hcs : csB n ws = true) {i : Nat} (hi : i < ws.length) : 0 ≤ (sr n ws).getD i 0 ∧ (sr n ws).getD i 0 ≤ 501 := by
  have a := sr_each hcs hi
  have b := q_le_n hcs hi
  have c := (cs_yes hcs).1
  omega

/-- P13, P15 -/
def Env (step : Int) (ws gs : List Int) : Prop := ∀ i k, i < ws.length → k < ws.length → 0 < gs.getD k 0 → ws.getD i 0 * (step * (gs.getD k 0 - 1) + 1) ≤ ws.getD k 0 * (step * gs.getD i 0 + 1)
theorem env_is {step : Int} {ws : List Int} (hv : vwB ws = true) (hs : 1 ≤ step ∧ step ≤ 2) : ∀ j, j ≤ 1000 → Env step ws (avgTo step ws j) := by
  intro j
  induction j with
  | zero =>
    intro _ i k hi hk h
    have := (avg_is hv hs 0 (by omega)).bd k hk
    omega
  | succ j ih =>
    intro hj i k hi hk
    have E := ih (by omega)
    have A := avg_is hv hs j (by omega)
    have hb := (avg_pos hv hs (by omega) A).1
    have hmax := fun i (hi : i < ws.length) => avg_max hv hs (by omega) A hi
    have e := avgTo_succ step ws j
    have hl := avgTo_len step ws j
    generalize pickB (avgB step ws (avgTo step ws j)) ws.length = b at *
    have g1 := fun i => getD_set (avgTo step ws j) b ((avgTo step ws j).getD b 0 + 1) (by omega) i
    rw [← e] at g1
    have hw := (all_get hv hk).1
    have mono : ws.getD k 0 * (step * (avgTo step ws j).getD i 0 + 1) ≤ ws.getD k 0 * (step * (avgTo step ws (j + 1)).getD i 0 + 1) := by
      refine Int.mul_le_mul_of_nonneg_left ?_ hw
      have : step * (avgTo step ws j).getD i 0 ≤ step * (avgTo step ws (j + 1)).getD i 0 := by
        refine Int.mul_le_mul_of_nonneg_left ?_ (by omega)
        rw [g1 i]; split
        · next h => subst h; omega
        · omega
      omega
    intro h
    refine Int.le_trans ?_ mono
    rw [g1 k] at h ⊢
    by_cases ek : k = b
    · subst ek
      rw [if_pos rfl]
      have := hmax i hi
      rw [show (avgTo step ws j).getD k 0 + 1 - 1 = (avgTo step ws j).getD k 0 by omega]
      exact this
    · rw [if_neg ek] at h ⊢
      exact E i k hi hk h
theorem sa_facts {step n : Int} {ws : List Int} (hcs : csB n ws = true) (hs : 1 ≤ step ∧ step ≤ 2) :
    (sa step n ws).sum = n ∧ Env step ws (sa step n ws) ∧ ∀ i, i < ws.length → 0 ≤ (sa step n ws).getD i 0 ∧ (sa step n ws).getD i 0 ≤ n := by
  obtain ⟨⟨a, b⟩, hv⟩ := cs_yes hcs
  have A := avg_is hv hs n.toNat (by omega)
  unfold sa
  refine ⟨by rw [A.sum]; omega, env_is hv hs _ (by omega), fun i hi => by have := A.bd i hi; omega⟩
theorem high_env {n : Int} {ws : List Int} (hcs : csB n ws = true) {i k : Nat} (hi : i < ws.length) (hk : k < ws.length) : ws.getD i 0 * (sa 1 n ws).getD k 0 ≤ ws.getD k 0 * ((sa 1 n ws).getD i 0 + 1) := by
  obtain ⟨_, E, B⟩ := sa_facts hcs (step := 1) (by omega)
  have := B k hk
  have b2 := B i hi
  by_cases h : 0 < (sa 1 n ws).getD k 0
  · have := E i k hi hk h
    rw [Int.one_mul, Int.one_mul, show (sa 1 n ws).getD k 0 - 1 + 1 = (sa 1 n ws).getD k 0 by omega] at this
    exact this
  · have e : (sa 1 n ws).getD k 0 = 0 := by omega
    rw [e, Int.mul_zero]
    exact Int.mul_nonneg (all_get (cs_yes hcs).2 hk).1 (by omega)
theorem sum_mul_le (c d : Int) (gs ws : List Int) (m : Nat) (hg : gs.length = m) (hw : ws.length = m) (h : ∀ k, k < m → c * gs.getD k 0 ≤ ws.getD k 0 * d) : ∀ k, k ≤ m → c * (gs.take k).sum ≤ (ws.take k).sum * d := by
  intro k
  induction k with
  | zero => intro _; simp
  | succ k ih =>
    intro hk
    rw [take_sum gs k (by omega), take_sum ws k (by omega), Int.mul_add, Int.add_mul]
    have := ih (by omega)
    have := h k (by omega)
    omega
theorem sum_mul_lt (c d : Int) (gs ws : List Int) (m i : Nat) (hg : gs.length = m) (hw : ws.length = m) (h : ∀ k, k < m → c * gs.getD k 0 ≤ ws.getD k 0 * d) (hi : c * gs.getD i 0 < ws.getD i 0 * d) : ∀ k, k ≤ m → i < k → c * (gs.take k).sum < (ws.take k).sum * d := by
  intro k
  induction k with
  | zero => intro _ h; omega
  | succ k ih =>
    intro hk hik
    rw [take_sum gs k (by omega), take_sum ws k (by omega), Int.mul_add, Int.add_mul]
    have h1 := h k (by omega)
    by_cases e : i = k
    · subst e
      have := sum_mul_le c d gs ws m hg hw h i (by omega)
      omega
    · have := ih (by omega) (by omega)
      omega
theorem high_quota {n : Int} {ws : List Int} (hcs : csB n ws = true) {i : Nat} (hi : i < ws.length) : (qs n ws).getD i 0 ≤ (sa 1 n ws).getD i 0 := by
  obtain ⟨S, E, B⟩ := sa_facts hcs (step := 1) (by omega)
  obtain ⟨s0, s1⟩ := ws_bd (cs_yes hcs).2
  have hw := all_get (cs_yes hcs).2 hi
  have hb := B i hi
  rw [qs_get n ws hi]
  by_cases h0 : 0 < ws.getD i 0
  · have h1 := sum_mul_lt (ws.getD i 0) ((sa 1 n ws).getD i 0 + 1) (sa 1 n ws) ws ws.length i (sa_len 1 n ws) rfl (fun k hk => high_env hcs hi hk) (Int.mul_lt_mul_of_pos_left (by omega) h0) ws.length (Nat.le_refl _) hi
    rw [take_all (sa_len 1 n ws), take_all rfl, S] at h1
    have h2 : n * ws.getD i 0 / ws.sum < (sa 1 n ws).getD i 0 + 1 := Int.ediv_lt_of_lt_mul (by omega) (by rw [Int.mul_comm n, Int.mul_comm _ ws.sum]; exact h1)
    omega
  · have e : ws.getD i 0 = 0 := by omega
    rw [e, Int.mul_zero, Int.zero_ediv]; exact hb.1
theorem mid_env {n : Int} {ws : List Int} (hcs : csB n ws = true) {i k : Nat} (hi : i < ws.length) (hk : k < ws.length) (h : 0 < (sa 2 n ws).getD k 0) : ws.getD i 0 * (2 * (sa 2 n ws).getD k 0 - 1) ≤ ws.getD k 0 * (2 * (sa 2 n ws).getD i 0 + 1) := by
  have := (sa_facts hcs (step := 2) (by omega)).2.1 i k hi hk h
  rw [show 2 * ((sa 2 n ws).getD k 0 - 1) + 1 = 2 * (sa 2 n ws).getD k 0 - 1 by omega] at this
  exact this

/-- P14, P16: a list of zeros with a one -/
def one1 (m b : Nat) : List Int := (List.replicate m 0).set b 1
theorem one1_len (m b : Nat) : (one1 m b).length = m := by unfold one1; simp
theorem one1_get {m b : Nat} (hb : b < m) (i : Nat) : (one1 m b).getD i 0 = if i = b then 1 else 0 := by
  unfold one1
  rw [getD_set _ _ _ (by simpa using hb)]
  split
  · rfl
  · rw [List.getD_eq_getElem?_getD, List.getElem?_replicate]; split <;> rfl
theorem one1_sum {m b : Nat} (hb : b < m) : (one1 m b).sum = 1 := by
  unfold one1
  rw [sum_set _ _ _ (by simpa using hb), List.getD_eq_getElem?_getD, List.getElem?_replicate]
  simp [hb]
theorem sa_more {step n : Int} {ws : List Int} (hcs : csB n ws = true) (hs : 1 ≤ step ∧ step ≤ 2) : ∃ b, b < ws.length ∧ sa step (n + 1) ws = (sa step n ws).set b ((sa step n ws).getD b 0 + 1) := by
  obtain ⟨⟨a, b⟩, hv⟩ := cs_yes hcs
  refine ⟨pickB (avgB step ws (avgTo step ws n.toNat)) ws.length, (avg_pos hv hs (by omega) (avg_is hv hs n.toNat (by omega))).1, ?_⟩
  unfold sa
  rw [show (n + 1).toNat = n.toNat + 1 by omega, avgTo_succ]
theorem csB_more {n : Int} {ws : List Int} (hcs : csB n ws = true) (h : n ≠ 500) : csB (n + 1) ws = true := by
  obtain ⟨⟨a, b⟩, hv⟩ := cs_yes hcs
  rw [cs_is (by omega)]; exact hv
/-- the greatest of the first k numbers, at least 0 -/
def hiTo (zs : List Int) : Nat → Int
  | 0 => 0
  | k + 1 => max (hiTo zs k) (zs.getD k 0)
theorem hiTo_succ (zs : List Int) (k : Nat) : hiTo zs (k + 1) = max (hiTo zs k) (zs.getD k 0) := rfl
/-- how many of the first k numbers are n -/
def cntTo (zs : List Int) (n : Int) : Nat → Int
  | 0 => 0
  | k + 1 => cntTo zs n k + if zs.getD k 0 = n then 1 else 0
theorem cntTo_succ (zs : List Int) (n : Int) (k : Nat) : cntTo zs n (k + 1) = cntTo zs n k + if zs.getD k 0 = n then 1 else 0 := rfl
theorem cntTo_bd (zs : List Int) (n : Int) : ∀ k, 0 ≤ cntTo zs n k ∧ cntTo zs n k ≤ (k : Int) := by
  intro k
  induction k with
  | zero => exact ⟨Int.le_refl _, Int.le_refl _⟩
  | succ k ih => rw [cntTo_succ]; split <;> omega
theorem one1_hi {m b : Nat} (hb : b < m) : hiTo (one1 m b) m = 1 := by
  have : ∀ k, hiTo (one1 m b) k = if b < k then 1 else 0 := by
    intro k
    induction k with
    | zero => simp [hiTo]
    | succ k ih =>
      rw [hiTo_succ, ih, one1_get hb]
      by_cases h1 : b < k
      · rw [if_pos h1, if_neg (show ¬ k = b by omega), if_pos (by omega)]; decide
      · by_cases h2 : k = b
        · rw [if_neg h1, if_pos h2, if_pos (by omega)]; decide
        · rw [if_neg h1, if_neg h2, if_neg (by omega)]; decide
  rw [this, if_pos hb]
theorem one1_cnt {m b : Nat} (hb : b < m) : cntTo (one1 m b) 0 m = (m : Int) - 1 := by
  have : ∀ k, cntTo (one1 m b) 0 k = if b < k then (k : Int) - 1 else k := by
    intro k
    induction k with
    | zero => simp [cntTo]
    | succ k ih =>
      rw [cntTo_succ, ih, one1_get hb]
      by_cases h1 : b < k
      · rw [if_pos h1, if_neg (show ¬ k = b by omega), if_pos rfl, if_pos (by omega)]; omega
      · by_cases h2 : k = b
        · rw [if_neg h1, if_pos h2, if_neg (by omega), if_pos (by omega)]; omega
        · rw [if_neg h1, if_neg h2, if_pos rfl, if_neg (by omega)]; omega
  rw [this, if_pos hb]
/-- twice the weights -/
def dbl (ws : List Int) : List Int := ws.map fun z => 2 * z
theorem dbl_len (ws : List Int) : (dbl ws).length = ws.length := by unfold dbl; simp
theorem dbl_get (ws : List Int) (i : Nat) : (dbl ws).getD i 0 = 2 * ws.getD i 0 := by
  unfold dbl
  rw [List.getD_eq_getElem?_getD, List.getD_eq_getElem?_getD, List.getElem?_map]
  cases ws[i]? <;> simp
theorem dbl_sum (ws : List Int) : (dbl ws).sum = 2 * ws.sum := by
  unfold dbl
  induction ws with
  | nil => rfl
  | cons x l ih => simp only [List.map_cons, List.sum_cons, ih]; omega
theorem hi_bd (zs : List Int) : ∀ k i, i < k → zs.getD i 0 ≤ hiTo zs k := by
  intro k
  induction k with
  | zero => intro i h; omega
  | succ k ih =>
    intro i h
    rw [hiTo_succ]
    by_cases e : i = k
    · subst e; exact Int.le_max_right _ _
    · exact Int.le_trans (ih i (by omega)) (Int.le_max_left _ _)
theorem dbl_cs {n : Int} {ws : List Int} (hcs : csB n ws = true) (h : hiTo (dbl ws) ws.length ≤ 1000) : csB n (dbl ws) = true := by
  obtain ⟨⟨a, b⟩, hv⟩ := cs_yes hcs
  rw [cs_is (by omega)]
  have hl := dbl_len ws
  have hd : allB (dbl ws) 1000 = true := allB_yes (fun i hi => by
    rw [hl] at hi
    have h1 := hi_bd (dbl ws) ws.length i hi
    have h2 := dbl_get ws i
    have h3 := all_get hv hi
    omega)
  unfold vwB
  rw [hd, decide_eq_true (by rw [hl]; exact (vw_is hv).2.1), decide_eq_true (by rw [dbl_sum]; have := (ws_bd hv).1; omega)]
  rfl
theorem dbl_avg (step : Int) (ws : List Int) : ∀ j, avgTo step (dbl ws) j = avgTo step ws j := by
  have hR : ∀ gs, avgB step (dbl ws) gs = avgB step ws gs := fun gs => by
    funext i b
    unfold avgB
    rw [dbl_get, dbl_get, Int.mul_assoc, Int.mul_assoc]
    exact decide_eq_decide.2 (by omega)
  intro j
  induction j with
  | zero => show List.replicate _ _ = List.replicate _ _; rw [dbl_len]
  | succ j ih => rw [avgTo_succ, avgTo_succ, ih, hR, dbl_len]
theorem dbl_sa (step n : Int) (ws : List Int) : sa step n (dbl ws) = sa step n ws := dbl_avg step ws _

/-- P12: nothing is nearer -/
def chosen (n : Int) (ws : List Int) (i : Nat) : Prop := (sr n ws).getD i 0 = (qs n ws).getD i 0 + 1
theorem near_rho {n : Int} {ws : List Int} (hcs : csB n ws = true) : ∃ r : Int, 0 ≤ r ∧ r ≤ ws.sum ∧ ∀ i, i < ws.length →
    ((sr n ws).getD i 0 = (qs n ws).getD i 0 + 1 ∧ r ≤ (rsts n ws).getD i 0) ∨ ((sr n ws).getD i 0 = (qs n ws).getD i 0 ∧ (rsts n ws).getD i 0 ≤ r) := by
  have H := rest_is hcs (leftOf n ws) (Nat.le_refl _)
  have ord : ∀ i k, i < ws.length → k < ws.length → (sr n ws).getD i 0 = (qs n ws).getD i 0 + 1 → (sr n ws).getD k 0 = (qs n ws).getD k 0 → (rsts n ws).getD k 0 ≤ (rsts n ws).getD i 0 := fun i k hi hk h1 h2 => by
    have a := H.each i hi
    have b := H.each k hk
    have c := rsts_bd hcs hk
    unfold sr at h1 h2
    exact H.order i k hi hk (by omega) (by omega)
  obtain ⟨s0, s1⟩ := ws_bd (cs_yes hcs).2
  have key : ∀ m, m ≤ ws.length → ∃ r : Int, 0 ≤ r ∧ r ≤ ws.sum ∧ (∀ i, i < m → (sr n ws).getD i 0 = (qs n ws).getD i 0 + 1 → r ≤ (rsts n ws).getD i 0) ∧ (∀ i, i < ws.length → (sr n ws).getD i 0 = (qs n ws).getD i 0 → (rsts n ws).getD i 0 ≤ r) := by
    intro m
    induction m with
    | zero => intro _; exact ⟨ws.sum, by omega, Int.le_refl _, fun i hi => by omega, fun i hi _ => Int.le_of_lt (rsts_bd hcs hi).2.1⟩
    | succ m ih =>
      intro hm
      obtain ⟨r, r0, r1, h1, h2⟩ := ih (by omega)
      have hb := rsts_bd hcs (i := m) (by omega)
      by_cases hc : (sr n ws).getD m 0 = (qs n ws).getD m 0 + 1
      · by_cases hr : r ≤ (rsts n ws).getD m 0
        · refine ⟨r, r0, r1, fun i hi h => ?_, h2⟩
          by_cases e : i = m
          · subst e; exact hr
          · exact h1 i (by omega) h
        · refine ⟨(rsts n ws).getD m 0, hb.1, Int.le_of_lt hb.2.1, fun i hi h => ?_, fun i hi h => ord m i (by omega) hi hc h⟩
          by_cases e : i = m
          · subst e; exact Int.le_refl _
          · have := h1 i (by omega) h; omega
      · refine ⟨r, r0, r1, fun i hi h => ?_, h2⟩
        by_cases e : i = m
        · subst e; exact absurd h hc
        · exact h1 i (by omega) h
  obtain ⟨r, r0, r1, h1, h2⟩ := key ws.length (Nat.le_refl _)
  refine ⟨r, r0, r1, fun i hi => ?_⟩
  have a := H.each i hi
  have e : (sr n ws).getD i 0 = (qs n ws).getD i 0 ∨ (sr n ws).getD i 0 = (qs n ws).getD i 0 + 1 := by unfold sr; omega
  rcases e with e | e
  · exact .inr ⟨e, h2 i hi e⟩
  · exact .inl ⟨e, h1 i hi e⟩
theorem absd_le_iff (a b c : Int) : c ≤ absd a b ↔ c ≤ b - a ∨ c ≤ a - b := by
  unfold absd; split <;> omega
theorem near_one {S r p q o x : Int} (hr0 : 0 ≤ r) (hr1 : r < S) (hp0 : 0 ≤ p) (hp1 : p ≤ S) (ho : (o = q + 1 ∧ p ≤ r) ∨ (o = q ∧ r ≤ p)) :
    absd (o * S) (S * q + r) + (S - 2 * p) * (x - o) ≤ absd (x * S) (S * q + r) := by
  have e1 : ∀ y : Int, (q + y) * S - (S * q + r) = y * S - r := fun y => by rw [Int.add_mul, Int.mul_comm q S]; omega
  obtain ⟨y, rfl⟩ : ∃ y, x = q + y := ⟨x - q, by omega⟩
  have hx := e1 y
  rw [absd_le_iff]
  rcases ho with ⟨rfl, hp⟩ | ⟨rfl, hp⟩
  · have h1 := e1 1
    have ea : absd ((q + 1) * S) (S * q + r) = S - r := by unfold absd; split <;> omega
    rw [ea]
    by_cases hy : 1 ≤ y
    · right
      have h2 : 0 ≤ p * (y - 1) := Int.mul_nonneg hp0 (by omega)
      have h3 : (S - 2 * p) * (q + y - (q + 1)) = y * S - S - 2 * (p * (y - 1)) := by
        rw [show q + y - (q + 1) = y - 1 by omega, Int.sub_mul, Int.mul_sub S, Int.mul_one, Int.mul_comm S y, Int.mul_assoc]
      omega
    · left
      have h2 : 0 ≤ (S - p) * (-y) := Int.mul_nonneg (by omega) (by omega)
      have h3 : (S - 2 * p) * (q + y - (q + 1)) = y * S - S - 2 * (p * y) + 2 * p := by
        rw [show q + y - (q + 1) = y - 1 by omega, Int.sub_mul, Int.mul_sub S, Int.mul_one, Int.mul_comm S y, Int.mul_assoc, Int.mul_sub p, Int.mul_one]; omega
      rw [Int.mul_neg, Int.sub_mul, Int.mul_comm S y] at h2
      omega
  · have h1 := e1 0
    have ea : absd (o * S) (S * o + r) = r := by
      rw [Int.add_zero, Int.zero_mul] at h1
      unfold absd; split <;> omega
    rw [ea]
    by_cases hy : 1 ≤ y
    · right
      have h2 : 0 ≤ p * (y - 1) := Int.mul_nonneg hp0 (by omega)
      have h3 : (S - 2 * p) * (o + y - o) = y * S - 2 * (p * y) := by
        rw [show o + y - o = y by omega, Int.sub_mul, Int.mul_comm S y, Int.mul_assoc]
      rw [Int.mul_sub, Int.mul_one] at h2
      omega
    · left
      have h2 : 0 ≤ (S - p) * (-y) := Int.mul_nonneg (by omega) (by omega)
      have h3 : (S - 2 * p) * (o + y - o) = y * S - 2 * (p * y) := by
        rw [show o + y - o = y by omega, Int.sub_mul, Int.mul_comm S y, Int.mul_assoc]
      rw [Int.mul_neg, Int.sub_mul, Int.mul_comm S y] at h2
      omega
theorem near {n : Int} {ws xs : List Int} (hcs : csB n ws = true) (hl : xs.length = ws.length) (hx : xs.sum = n) : distTo (sr n ws) ws ws.length ≤ distTo xs ws ws.length := by
  obtain ⟨p, p0, p1, hp⟩ := near_rho hcs
  obtain ⟨s0, s1⟩ := ws_bd (cs_yes hcs).2
  have ho := sr_sum hcs
  have hol := sr_len n ws
  have key : ∀ k, k ≤ ws.length → distTo (sr n ws) ws k + (ws.sum - 2 * p) * ((xs.take k).sum - ((sr n ws).take k).sum) ≤ distTo xs ws k := by
    intro k
    induction k with
    | zero => intro _; simp [distTo]
    | succ k ih =>
      intro hk
      have h1 := ih (by omega)
      have hr := rsts_bd hcs (i := k) (by omega)
      have e : ws.getD k 0 * n = ws.sum * (qs n ws).getD k 0 + (rsts n ws).getD k 0 := by
        rw [qs_get n ws (by omega), rsts_get n ws (by omega), Int.mul_comm _ n]
        exact (Int.mul_ediv_add_emod _ _).symm
      have h2 := near_one (x := xs.getD k 0) (q := (qs n ws).getD k 0) (o := (sr n ws).getD k 0) hr.1 hr.2.1 p0 p1 (hp k (by omega))
      rw [← e] at h2
      show distTo (sr n ws) ws k + dterm (sr n ws) ws k + _ ≤ distTo xs ws k + dterm xs ws k
      have d1 : dterm (sr n ws) ws k = absd ((sr n ws).getD k 0 * ws.sum) (ws.getD k 0 * n) := by unfold dterm; rw [ho]
      have d2 : dterm xs ws k = absd (xs.getD k 0 * ws.sum) (ws.getD k 0 * n) := by unfold dterm; rw [hx]
      rw [d1, d2, take_sum xs k (by omega), take_sum (sr n ws) k (by omega)]
      have h3 : (ws.sum - 2 * p) * ((xs.take k).sum + xs.getD k 0 - (((sr n ws).take k).sum + (sr n ws).getD k 0)) = (ws.sum - 2 * p) * ((xs.take k).sum - ((sr n ws).take k).sum) + (ws.sum - 2 * p) * (xs.getD k 0 - (sr n ws).getD k 0) := by
        rw [← Int.mul_add]; congr 1; omega
      rw [h3]; omega
  have := key ws.length (Nat.le_refl _)
  rw [take_all hl, take_all hol, hx, ho, Int.sub_self, Int.mul_zero] at this
  omega
end Go.Proofs.Ytclpbbhhaclgbaa
namespace Go.Proofs.Ytclpbbhhaclgbaa
open Go.ChangeShapes Go.WideShapes Go.RowKit Go.Deep

abbrev Tn := Int × Int
abbrev tn0 : Tn := (0, 0)
/-- the numbers, one after the other -/
def flatTn : List Tn → List Int
  | [] => []
  | h :: t => h.1 :: h.2 :: flatTn t
theorem flatTn_len : ∀ xs : List Tn, (flatTn xs).length = xs.length * 2 := by
  intro xs
  induction xs with
  | nil => rfl
  | cons h t ih => show (flatTn t).length + 1 + 1 = (t.length + 1) * 2; rw [ih]; omega
theorem flatTn_append : ∀ a b : List Tn, flatTn (a ++ b) = flatTn a ++ flatTn b := by
  intro a b
  induction a with
  | nil => rfl
  | cons h t ih => show h.1 :: h.2 :: flatTn (t ++ b) = _; rw [ih]; rfl
theorem flatTn_get : ∀ (xs : List Tn) (k : Nat), k < xs.length → (flatTn xs).getD (k * 2) 0 = (xs.getD k tn0).1 ∧ (flatTn xs).getD (k * 2 + 1) 0 = (xs.getD k tn0).2 := by
  intro xs
  induction xs with
  | nil => intro k h; simp at h
  | cons h t ih =>
    intro k hk
    cases k with
    | zero => exact ⟨rfl, rfl⟩
    | succ k =>
      have := ih k (by simpa using hk)
      rw [show (k + 1) * 2 = k * 2 + 1 + 1 from by omega]
      exact this
theorem flatTn_take (xs : List Tn) (k : Nat) : (flatTn xs).take (k * 2) = flatTn (xs.take k) := by
  induction xs generalizing k with
  | nil => simp [flatTn]
  | cons h t ih =>
    cases k with
    | zero => rfl
    | succ k =>
      rw [show (k + 1) * 2 = k * 2 + 1 + 1 from by omega]
      show h.1 :: h.2 :: (flatTn t).take (k * 2) = _
      rw [ih]; rfl
theorem flatTn_drop (xs : List Tn) (k : Nat) : (flatTn xs).drop (k * 2) = flatTn (xs.drop k) := by
  induction xs generalizing k with
  | nil => simp [flatTn]
  | cons h t ih =>
    cases k with
    | zero => rfl
    | succ k =>
      rw [show (k + 1) * 2 = k * 2 + 1 + 1 from by omega]
      show (flatTn t).drop (k * 2) = _
      rw [ih]; rfl
/-- Turns xs, read through a slice at address a -/
def IsTn (w : World) (a : Option Addr) (xs : List Tn) : Prop := xs = [] ∨ ∃ g o, a = some ⟨g, o, none⟩ ∧ ∀ i, i < xs.length → w.cell? ⟨g, o + i * 2, none⟩ = some (.int .i64 (xs.getD i tn0).1) ∧ w.cell? ⟨g, o + i * 2 + 1, none⟩ = some (.int .i64 (xs.getD i tn0).2)
theorem tn_below {w w' : World} {a : Option Addr} {xs : List Tn} (h : IsTn w a xs) (hB : Below w.heap.size w w') : IsTn w' a xs := by
  rcases h with h | ⟨g, o, ha, hc⟩
  · exact .inl h
  · refine .inr ⟨g, o, ha, fun i hi => ?_⟩
    obtain ⟨c0, c1⟩ := hc i hi
    have kp : ∀ p v, w.cell? ⟨g, p, none⟩ = some v → w'.cell? ⟨g, p, none⟩ = some v := fun p v c => (hB.cell (p := ⟨g, p, none⟩) (World.block_lt_of_cell? w _ c)).trans c
    exact ⟨kp _ _ c0, kp _ _ c1⟩
theorem tn_at {w wr : World} {g o : Nat} {xs : List Tn} (hc : ∀ i, i < xs.length → w.cell? ⟨g, o + i * 2, none⟩ = some (.int .i64 (xs.getD i tn0).1) ∧ w.cell? ⟨g, o + i * 2 + 1, none⟩ = some (.int .i64 (xs.getD i tn0).2)) (hB : Below w.heap.size w wr) {k : Nat} (hk : k < xs.length) :
    wr.cell? ⟨g, o + k * 2, none⟩ = some (.int .i64 (xs.getD k tn0).1) ∧ wr.cell? ⟨g, o + k * 2 + 1, none⟩ = some (.int .i64 (xs.getD k tn0).2) := by
  obtain ⟨c0, c1⟩ := hc k hk
  have kp : ∀ p v, w.cell? ⟨g, p, none⟩ = some v → wr.cell? ⟨g, p, none⟩ = some v := fun p v c => (hB.cell (p := ⟨g, p, none⟩) (World.block_lt_of_cell? w _ c)).trans c
  exact ⟨kp _ _ c0, kp _ _ c1⟩
theorem Flat.tn {w : World} {g : Nat} {t : TypeId} {xs : List Tn} (h : Flat w g t (flatTn xs)) : IsTn w (some ⟨g, 0, none⟩) xs := by
  refine .inr ⟨g, 0, rfl, fun i hi => ?_⟩
  obtain ⟨a0, a1⟩ := flatTn_get xs i hi
  have hl := flatTn_len xs
  rw [Nat.zero_add]
  exact ⟨by rw [h.cell (by omega), a0], by rw [h.cell (by omega), a1]⟩
theorem tn_take {w : World} {g o : Nat} {xs : List Tn} (hc : ∀ i, i < xs.length → w.cell? ⟨g, o + i * 2, none⟩ = some (.int .i64 (xs.getD i tn0).1) ∧ w.cell? ⟨g, o + i * 2 + 1, none⟩ = some (.int .i64 (xs.getD i tn0).2)) (k : Nat) : IsTn w (some ⟨g, o, none⟩) (xs.take k) := by
  refine .inr ⟨g, o, rfl, fun i hi => ?_⟩
  rw [List.length_take] at hi
  have e : (xs.take k).getD i tn0 = xs.getD i tn0 := by
    rw [List.getD_eq_getElem?_getD, List.getD_eq_getElem?_getD, List.getElem?_take_of_lt (by omega)]
  rw [e]; exact hc i (by omega)
/-- the cells -/
def valsTn (xs : List Tn) : List Value := (flatTn xs).map (Value.int .i64)
theorem valsTn_len (xs : List Tn) : (valsTn xs).length = xs.length * 2 := by unfold valsTn; rw [List.length_map, flatTn_len]
theorem valsTn_append (a b : List Tn) : valsTn (a ++ b) = valsTn a ++ valsTn b := by unfold valsTn; rw [flatTn_append, List.map_append]
theorem valsTn_one (xs : List Tn) : ∀ u ∈ valsTn xs, u.oneCell' = true := fun u hu => by
  unfold valsTn at hu
  obtain ⟨z, _, rfl⟩ := List.mem_map.1 hu
  rfl
theorem valsTn_get {xs : List Tn} {k : Nat} (h : k < xs.length) : (valsTn xs)[k * 2]? = some (.int .i64 (xs.getD k tn0).1) ∧ (valsTn xs)[k * 2 + 1]? = some (.int .i64 (xs.getD k tn0).2) := by
  obtain ⟨a0, a1⟩ := flatTn_get xs k h
  have hl := flatTn_len xs
  have get : ∀ j, j < (flatTn xs).length → (valsTn xs)[j]? = some (.int .i64 ((flatTn xs).getD j 0)) := fun j hj => by
    unfold valsTn
    rw [List.getElem?_map, List.getElem?_eq_getElem hj, List.getD_eq_getElem?_getD, List.getElem?_eq_getElem hj]; rfl
  rw [get _ (by omega), get _ (by omega), a0, a1]
  exact ⟨rfl, rfl⟩
theorem tn_reads {w : World} {a : Option Addr} {xs : List Tn} (h : IsTn w a xs) : Reads w w.heap.size 2 a xs.length (valsTn xs) := by
  refine ⟨valsTn_len xs, fun hn => ?_⟩
  rcases h with rfl | ⟨g, o, rfl, hc⟩
  · exact absurd hn (by simp)
  · refine ⟨⟨g, o, none⟩, rfl, ?_, fun j u hu => ?_⟩
    · exact World.block_lt_of_cell? w _ (hc 0 hn).1
    · have hl := valsTn_len xs
      have hj : j < (valsTn xs).length := by
        rcases Nat.lt_or_ge j (valsTn xs).length with h | h
        · exact h
        · rw [List.getElem?_eq_none h] at hu; cases hu
      have hk : j / 2 < xs.length := by omega
      obtain ⟨c0, c1⟩ := hc _ hk
      obtain ⟨v0, v1⟩ := valsTn_get hk
      have hm : j % 2 = 0 ∨ j % 2 = 1 := by omega
      rw [add_off]
      rcases hm with e | e
      · have ej : j = j / 2 * 2 := by omega
        rw [ej] at hu ⊢; rw [v0] at hu; rw [c0, ← hu]
      · have ej : j = j / 2 * 2 + 1 := by omega
        rw [ej] at hu ⊢; rw [v1] at hu; rw [← Nat.add_assoc, c1, ← hu]
theorem reads_tn {w : World} {B : Nat} {a : Option Addr} {xs : List Tn} (h : Reads w B 2 a xs.length (valsTn xs)) (hsp : ∀ ad, a = some ad → ad.spot = none) : IsTn w a xs := by
  by_cases hn : xs = []
  · exact .inl hn
  · obtain ⟨ad, rfl, _, hc⟩ := h.2 (by cases xs with | nil => exact absurd rfl hn | cons _ _ => simp)
    obtain ⟨g, o, sp⟩ := ad
    obtain rfl : sp = none := hsp _ rfl
    refine .inr ⟨g, o, rfl, fun i hi => ?_⟩
    obtain ⟨v0, v1⟩ := valsTn_get hi
    have e0 := hc _ _ v0
    have e1 := hc _ _ v1
    rw [add_off] at e0 e1
    rw [← Nat.add_assoc] at e1
    exact ⟨e0, e1⟩
theorem infoTn : (Try.prog.info? 84).map (fun i => (i.zero, i.size, i.bytes)) = some (some (.agg #[.int .i64 0, .int .i64 0]), 2, 16) := by kernel_rfl
/-- a row of the call's own that holds xs -/
def OwnTn (w : World) (base : Nat) (v : Value) (xs : List Tn) : Prop := w.ownsRow base 84 2 v xs.length (valsTn xs)
theorem own_tn {w : World} {base : Nat} {v : Value} {xs : List Tn} (h : OwnTn w base v xs) : ∃ (b : Option Addr) (cap : Nat), v = .slice b xs.length cap ∧ IsTn w b xs := by
  have h0 := h
  rcases h.2 with ⟨hv, hn⟩ | ⟨g, cap, cur, hv, _⟩
  · exact ⟨none, 0, by rw [hv, hn], .inl (List.eq_nil_of_length_eq_zero hn)⟩
  · subst hv
    exact ⟨some ⟨g, 0, none⟩, cap, rfl, reads_tn (Reads.of_own h0) (fun ad e => by injection e with e; rw [← e])⟩

/-- a slice of Turns that came in -/
def TnIn (w : World) (a : Option Addr) (len cap : Nat) (xs : List Tn) : Prop := xs.length = len ∧ IsTn w a xs ∧ len ≤ cap ∧ cap ≤ maxLen
end Go.Proofs.Ytclpbbhhaclgbaa
namespace Go.Proofs.Ytclpbbhhaclgbaa

/-- the sum of the hours -/
def sumT : List Tn → Int
  | [] => 0
  | h :: t => h.2 + sumT t
theorem sumT_append (a b : List Tn) : sumT (a ++ b) = sumT a + sumT b := by
  induction a with
  | nil => show sumT b = 0 + sumT b; omega
  | cons h t ih => show h.2 + sumT (t ++ b) = h.2 + sumT t + sumT b; rw [ih]; omega
theorem sumT_succ {ts : List Tn} {k : Nat} (h : k < ts.length) : sumT (ts.take (k + 1)) = sumT (ts.take k) + (ts.getD k tn0).2 := by
  rw [take_snocD ts h tn0, sumT_append]
  show _ + ((ts.getD k tn0).2 + 0) = _
  omega
/-- a turn that can be -/
def okT (ts : List Tn) (k : Nat) : Bool := decide (1 ≤ (ts.getD k tn0).1) && decide ((ts.getD k tn0).1 ≤ 999) && decide (1 ≤ (ts.getD k tn0).2) && decide ((ts.getD k tn0).2 ≤ 336)
theorem okT_iff (ts : List Tn) (k : Nat) : okT ts k = true ↔ 1 ≤ (ts.getD k tn0).1 ∧ (ts.getD k tn0).1 ≤ 999 ∧ 1 ≤ (ts.getD k tn0).2 ∧ (ts.getD k tn0).2 ≤ 336 := by
  unfold okT; simp only [Bool.and_eq_true, decide_eq_true_eq, and_assoc]
theorem okT_no {ts : List Tn} {k : Nat} (h : ¬ (1 ≤ (ts.getD k tn0).1 ∧ (ts.getD k tn0).1 ≤ 999 ∧ 1 ≤ (ts.getD k tn0).2 ∧ (ts.getD k tn0).2 ≤ 336)) : okT ts k = false := by
  rw [Bool.eq_false_iff]; exact fun c => h ((okT_iff ts k).1 c)
def allT (ts : List Tn) : Bool := (List.range ts.length).all (okT ts)
/-- a valid rotation -/
def vtB (ts : List Tn) : Bool := decide (1 ≤ ts.length) && decide (ts.length ≤ 24) && allT ts && decide (sumT ts ≤ 336)
theorem sumT_bd {ts : List Tn} : ∀ k, k ≤ ts.length → (∀ j, j < k → okT ts j = true) → (k : Int) ≤ sumT (ts.take k) ∧ sumT (ts.take k) ≤ 336 * (k : Int) := by
  intro k
  induction k with
  | zero => intro _ _; exact ⟨by show (0 : Int) ≤ 0; omega, by show (0 : Int) ≤ 336 * ((0 : Nat) : Int); omega⟩
  | succ k ih =>
    intro hk h
    have a := ih (by omega) (fun j hj => h j (by omega))
    have b := (okT_iff ts k).1 (h k (by omega))
    rw [sumT_succ (by omega)]
    omega
theorem sumT_all (ts : List Tn) : sumT (ts.take ts.length) = sumT ts := by rw [List.take_of_length_le (Nat.le_refl _)]
theorem vt_is {ts : List Tn} (h : vtB ts = true) : 1 ≤ ts.length ∧ ts.length ≤ 24 ∧ (∀ j, j < ts.length → okT ts j = true) ∧ 1 ≤ sumT ts ∧ sumT ts ≤ 336 := by
  unfold vtB allT at h
  simp only [Bool.and_eq_true, decide_eq_true_eq, rng_all] at h
  obtain ⟨⟨⟨a, b⟩, c⟩, d⟩ := h
  have := (sumT_bd ts.length (Nat.le_refl _) c).1
  rw [sumT_all] at this
  exact ⟨a, b, c, by omega, d⟩
theorem vt_no0 {ts : List Tn} (h : ts.length < 1) : vtB ts = false := by unfold vtB; rw [decide_eq_false (by omega : ¬ 1 ≤ ts.length)]; rfl
theorem vt_no1 {ts : List Tn} (h : 24 < ts.length) : vtB ts = false := by unfold vtB; rw [decide_eq_false (by omega : ¬ ts.length ≤ 24)]; simp
theorem vt_no2 {ts : List Tn} {k : Nat} (hk : k < ts.length) (h : okT ts k = false) : vtB ts = false := by unfold vtB allT; rw [rng_no hk h]; simp
theorem vt_end {ts : List Tn} (h1 : 1 ≤ ts.length) (h2 : ts.length ≤ 24) (h3 : ∀ j, j < ts.length → okT ts j = true) : vtB ts = decide (sumT ts ≤ 336) := by
  unfold vtB allT; rw [decide_eq_true h1, decide_eq_true h2, rng_yes h3]; rfl
/-- the index of the turn at a time of the first period -/
def idxT : List Tn → Int → Nat
  | [], _ => 0
  | h :: r, t => if t < h.2 then 0 else idxT r (t - h.2) + 1
theorem sumT_pos : ∀ (k : Nat) (ts : List Tn), (∀ j, j < k → 0 ≤ (ts.getD j tn0).2) → 0 ≤ sumT (ts.take k) := by
  intro k
  induction k with
  | zero => intro ts _; exact Int.le_refl _
  | succ k ih =>
    intro ts h
    cases ts with
    | nil => exact Int.le_refl _
    | cons x r =>
      have a := ih r (fun j hj => h (j + 1) (by omega))
      have b : 0 ≤ x.2 := h 0 (by omega)
      show 0 ≤ x.2 + sumT (r.take k)
      omega
theorem idx_at : ∀ (k : Nat) (ts : List Tn) (t : Int), k < ts.length → (∀ j, j < ts.length → 0 ≤ (ts.getD j tn0).2) → sumT (ts.take k) ≤ t → t < sumT (ts.take (k + 1)) → idxT ts t = k := by
  intro k
  induction k with
  | zero =>
    intro ts t hk hp h1 h2
    cases ts with
    | nil => simp at hk
    | cons x r =>
      have h2 : t < x.2 + 0 := h2
      show (if t < x.2 then 0 else _) = 0
      rw [if_pos (by omega)]
  | succ k ih =>
    intro ts t hk hp h1 h2
    cases ts with
    | nil => simp at hk
    | cons x r =>
      have h1 : x.2 + sumT (r.take k) ≤ t := h1
      have h2 : t < x.2 + sumT (r.take (k + 1)) := h2
      have hk' : k < r.length := by simpa using hk
      have p := sumT_pos k r (fun j hj => hp (j + 1) (by simp; omega))
      show (if t < x.2 then 0 else idxT r (t - x.2) + 1) = k + 1
      rw [if_neg (by omega), ih r (t - x.2) hk' (fun j hj => hp (j + 1) (by simp; omega)) (by omega) (by omega)]
theorem idx_lt : ∀ (ts : List Tn) (t : Int), t < sumT ts → 0 ≤ t → idxT ts t < ts.length := by
  intro ts
  induction ts with
  | nil => intro t h h0; have h : t < 0 := h; omega
  | cons x r ih =>
    intro t h h0
    have h : t < x.2 + sumT r := h
    show (if t < x.2 then 0 else idxT r (t - x.2) + 1) < r.length + 1
    by_cases c : t < x.2
    · rw [if_pos c]; omega
    · rw [if_neg c]; have := ih (t - x.2) (by omega) (by omega); omega
/-- the owner at a time of the first period -/
def whoT (ts : List Tn) (t : Int) : Int := (ts.getD (idxT ts t) tn0).1
/-- the owner at any time -/
def whoM (ts : List Tn) (t : Int) : Int := whoT ts (t % sumT ts)
/-- the owners of the first period, hour by hour -/
def ownT (ts : List Tn) : List Int := (List.range (sumT ts).toNat).map fun (j : Nat) => whoT ts (j : Int)
theorem ownT_len (ts : List Tn) : (ownT ts).length = (sumT ts).toNat := by unfold ownT; simp
theorem ownT_get (ts : List Tn) {j : Nat} (h : j < (sumT ts).toNat) : (ownT ts).getD j 0 = whoT ts (j : Int) := by
  unfold ownT
  rw [List.getD_eq_getElem?_getD, List.getElem?_map, List.getElem?_range h]; rfl
/-- how many of m times from a on are such -/
def cntF (p : Int → Bool) (a : Int) : Nat → Int
  | 0 => 0
  | m + 1 => cntF p a m + (if p (a + (m : Int)) then 1 else 0)
theorem cnt_bd (p : Int → Bool) (a : Int) : ∀ m, 0 ≤ cntF p a m ∧ cntF p a m ≤ (m : Int) := by
  intro m
  induction m with
  | zero => exact ⟨Int.le_refl _, Int.le_refl _⟩
  | succ m ih =>
    show 0 ≤ cntF p a m + _ ∧ cntF p a m + _ ≤ _
    split <;> omega
/-- the first of m times from t on that is such -/
def nxtF (p : Int → Bool) : Nat → Int → Int
  | 0, _ => -1
  | m + 1, t => if p t = true then t else nxtF p m (t + 1)
def isNi (t : Int) : Bool := decide (t % 24 < 6) || decide (20 ≤ t % 24)
def whoV (ts : List Tn) (t : Int) : Int := if vtB ts && (decide (0 ≤ t) && decide (t ≤ 5000)) then whoM ts t else -1
def startV (ts : List Tn) (i : Int) : Int := if vtB ts && (decide (0 ≤ i) && decide (i < (ts.length : Int))) then sumT (ts.take i.toNat) else -1
def perV (ts : List Tn) : Int := if vtB ts then sumT ts else -1
/-- how many times are looked at -/
def fuelT (ts : List Tn) (t : Int) : Nat := (min (sumT ts) (5001 - t)).toNat
def nextV (ts : List Tn) (o t : Int) : Int := if vtB ts && (decide (0 ≤ t) && decide (t ≤ 5000)) then nxtF (fun n => whoM ts n == o) (fuelT ts t) t else -1
def timesB (a b : Int) : Bool := decide (0 ≤ a) && decide (a ≤ b) && decide (b ≤ 5000)
def hoursV (ts : List Tn) (o a b : Int) : Int := if vtB ts && timesB a b then cntF (fun n => whoM ts n == o) a (b - a).toNat else -1
def nightsV (ts : List Tn) (o a b : Int) : Int := if vtB ts && timesB a b then cntF (fun n => (whoM ts n == o) && isNi n) a (b - a).toNat else -1
def evenV (ts : List Tn) : Int := if vtB ts then sumT ts / (Int.gcd (sumT ts) 24 : Int) * 24 else -1
theorem nxt_succ (p : Int → Bool) (m : Nat) (t : Int) : nxtF p (m + 1) t = if p t = true then t else nxtF p m (t + 1) := rfl
theorem cnt_succ (p : Int → Bool) (a : Int) (m : Nat) : cntF p a (m + 1) = cntF p a m + (if p (a + (m : Int)) then 1 else 0) := rfl
end Go.Proofs.Ytclpbbhhaclgbaa
namespace Go.Proofs.Ytclpbbhhaclgbaa
open Go.RowKit
set_option linter.unusedSimpArgs false
set_option linter.unusedVariables false

theorem sumT_bd2 {ts : List Tn} (hz : ∀ k, k < ts.length → 0 ≤ (ts.getD k tn0).2 ∧ (ts.getD k tn0).2 ≤ 1000000) : ∀ k, k ≤ ts.length → 0 ≤ sumT (ts.take k) ∧ sumT (ts.take k) ≤ 1000000 * (k : Int) := by
  intro k
  induction k with
  | zero => intro _; exact ⟨Int.le_refl _, by show (0 : Int) ≤ 1000000 * ((0 : Nat) : Int); omega⟩
  | succ k ih =>
    intro hk
    have a := ih (by omega)
    have b := hz k (by omega)
    rw [sumT_succ (by omega)]
    omega
set_option maxHeartbeats 1000000 in
/-- impl.hoursOf -/
theorem ihours (a : Option Addr) (cap : Nat) (ts : List Tn) (w : World) (h : IsTn w a ts) (hn : ts.length ≤ 1048576) (hz : ∀ k, k < ts.length → 0 ≤ (ts.getD k tn0).2 ∧ (ts.getD k tn0).2 ≤ 1000000) :
    Calls Try.prog 68 #[.slice a ts.length cap] w fun e w' => e = .returned (.int .i64 (sumT ts)) ∧ Below w.heap.size w w' := by
  rcases h with rfl | ⟨g, o, rfl, hc⟩
  · go_enter Try.func68, Try.ntmps68
    go_wp2
    go_rounds 1
    go_ret
    exact ⟨rfl, by go_grown⟩
  · have HC := Lib.hid hc
    have HZ := Lib.hid hz
    have HB := Lib.hid (sumT_bd2 hz)
    clear hc hz
    go_enter Try.func68, Try.ntmps68
    go_wp2
    go_loopw [3, 8] (fun s i wr => ∃ k : Nat, k ≤ ts.length ∧ i = .int .i64 k ∧ s = .int .i64 (sumT (ts.take k)) ∧ Below w.heap.size w wr) (fun _ i _ => ts.length - (intOf i).toNat)
    case atStart => exact ⟨0, Nat.zero_le _, rfl, rfl, by go_grown⟩
    case round =>
      obtain ⟨k, hk, rfl, rfl, hB⟩ := hrel
      obtain ⟨b0, b1⟩ := HB.out k hk
      by_cases hlt : k < ts.length
      · obtain ⟨c0, c1⟩ := tn_at HC.out hB hlt
        have ht := sumT_succ hlt
        obtain ⟨z0, z1⟩ := HZ.out k hlt
        generalize ts.getD k tn0 = hh at c0 c1 ht z0 z1
        obtain ⟨x, y⟩ := hh
        dsimp only at c0 c1 ht z0 z1
        generalize sumT (ts.take k) = s at ht b0 b1
        have HT := Lib.hid ht
        have HBl := Lib.hid hB
        clear ht hB
        go_wp2
        go_roundw
        case rel => exact ⟨k + 1, by omega, by go_num, by rw [HT.out], HBl.out.alloc HBl.out.size _⟩
        case measure => simp [intOf]; omega
      · go_wp2
        go_ret
        exact ⟨ret_int (by rw [List.take_of_length_le (by omega)]), hB⟩

theorem vt_hz {ts : List Tn} (h : ∀ j, j < ts.length → okT ts j = true) : ∀ k, k < ts.length → 0 ≤ (ts.getD k tn0).2 ∧ (ts.getD k tn0).2 ≤ 1000000 := fun k hk => by
  have := (okT_iff ts k).1 (h k hk); omega

set_option maxHeartbeats 2000000 in
/-- impl.ValidTurns -/
theorem iVT (a : Option Addr) (cap : Nat) (ts : List Tn) (w : World) (h : IsTn w a ts) (hn : ts.length ≤ 1048576) :
    Calls Try.prog 41 #[.slice a ts.length cap] w fun e w' => e = .returned (.bool (vtB ts)) ∧ Below w.heap.size w w' := by
  by_cases h0 : ts.length < 1
  · have e0 : decide ((ts.length : Int) < 1) = true := by simp; omega
    have HN := Lib.hid (vt_no0 h0)
    clear h0
    go_enter Try.func41, Try.ntmps41
    go_wp2_with fail
    go_ret
    exact ⟨ret_bool HN.out.symm, by go_grown⟩
  have e0 : decide ((ts.length : Int) < 1) = false := by simp; omega
  by_cases h24 : 24 < ts.length
  · have e1 : decide (24 < (ts.length : Int)) = true := by simp; omega
    have HN := Lib.hid (vt_no1 h24)
    clear h24 h0
    go_enter Try.func41, Try.ntmps41
    go_wp2_with fail
    go_ret
    exact ⟨ret_bool HN.out.symm, by go_grown⟩
  have e1 : decide (24 < (ts.length : Int)) = false := by simp; omega
  have HS := Lib.hid h
  rcases h with rfl | ⟨g, o, rfl, hc⟩
  · exact absurd (by simp) h0
  have HC := Lib.hid hc
  have l1 : 1 ≤ ts.length := by omega
  have l24 : ts.length ≤ 24 := by omega
  clear hc h0 h24
  go_enter Try.func41, Try.ntmps41
  go_wp2_with fail
  go_loopw [15] (fun i wr => ∃ k : Nat, k ≤ ts.length ∧ i = .int .i64 k ∧ Hid (∀ j, j < k → okT ts j = true) ∧ Below w.heap.size w wr) (fun i _ => ts.length - (intOf i).toNat)
  case atStart => exact ⟨0, Nat.zero_le _, rfl, fun j hj => by omega, by go_grown⟩
  case round =>
    obtain ⟨k, hk, rfl, HA, hB⟩ := hrel
    by_cases hlt : k < ts.length
    · obtain ⟨c0, c1⟩ := tn_at HC.out hB hlt
      have hno : ¬ (1 ≤ (ts.getD k tn0).1 ∧ (ts.getD k tn0).1 ≤ 999 ∧ 1 ≤ (ts.getD k tn0).2 ∧ (ts.getD k tn0).2 ≤ 336) → vtB ts = false := fun e => vt_no2 hlt (okT_no e)
      have hyes : (1 ≤ (ts.getD k tn0).1 ∧ (ts.getD k tn0).1 ≤ 999 ∧ 1 ≤ (ts.getD k tn0).2 ∧ (ts.getD k tn0).2 ≤ 336) → ∀ j, j < k + 1 → okT ts j = true := fun e => rng_more HA.out ((okT_iff ts k).2 e)
      generalize ts.getD k tn0 = hh at c0 c1 hno hyes
      obtain ⟨x, y⟩ := hh
      dsimp only at c0 c1 hno hyes
      have HN := Lib.hid hno
      have HY := Lib.hid hyes
      have HB := Lib.hid hB
      clear hno hyes hB
      by_cases h2 : 1 ≤ x ∧ x ≤ 999
      · by_cases h3 : y < 1
        · have hv : Hid (vtB ts = false) := HN.out (by omega)
          have d3 : decide (y < 1) = true := decide_eq_true h3
          go_wp2_with fail
          refine (iowner_yes x _ h2.1 h2.2).mono ?_
          rintro e w' ⟨rfl, rfl⟩
          go_wp2_with fail
          go_ret
          exact ⟨ret_bool hv.out.symm, HB.out.alloc HB.out.size _⟩
        · have d3 : decide (y < 1) = false := decide_eq_false h3
          by_cases h4 : 336 < y
          · have hv : Hid (vtB ts = false) := HN.out (by omega)
            have d4 : decide (336 < y) = true := decide_eq_true h4
            go_wp2_with fail
            refine (iowner_yes x _ h2.1 h2.2).mono ?_
            rintro e w' ⟨rfl, rfl⟩
            go_wp2_with fail
            go_ret
            exact ⟨ret_bool hv.out.symm, HB.out.alloc HB.out.size _⟩
          · have d4 : decide (336 < y) = false := decide_eq_false h4
            have HY2 := Lib.hid (HY.out ⟨h2.1, h2.2, by omega, by omega⟩)
            go_wp2_with fail
            refine (iowner_yes x _ h2.1 h2.2).mono ?_
            rintro e w' ⟨rfl, rfl⟩
            go_wp2_with fail
            go_roundw
            case rel => exact ⟨k + 1, by omega, by go_num, HY2.out, HB.out.alloc HB.out.size _⟩
            case measure => simp [intOf]; omega
      · have hv : Hid (vtB ts = false) := HN.out (fun c => h2 ⟨c.1, c.2.1⟩)
        go_wp2_with fail
        refine (iowner_no x _ (by omega)).mono ?_
        rintro e w' ⟨rfl, rfl⟩
        go_wp2_with fail
        go_ret
        exact ⟨ret_bool hv.out.symm, HB.out.alloc HB.out.size _⟩
    · obtain rfl : k = ts.length := by omega
      have HZ := Lib.hid (vt_hz HA.out)
      have HE := Lib.hid (vt_end l1 l24 HA.out)
      have HB := Lib.hid hB
      clear HA hB
      go_wp2_with fail
      refine (ihours (some ⟨g, o, none⟩) cap ts _ (tn_below HS.out HB.out) hn HZ.out).mono ?_
      rintro e w2 ⟨rfl, C⟩
      go_wp2_with fail
      go_ret
      exact ⟨ret_bool HE.out.symm, bel_tr HB.out C⟩
end Go.Proofs.Ytclpbbhhaclgbaa
namespace Go.Proofs.Ytclpbbhhaclgbaa
open Go.RowKit
set_option linter.unusedSimpArgs false
set_option linter.unusedVariables false

theorem sumT_le {ts : List Tn} (hp : ∀ j, j < ts.length → 0 ≤ (ts.getD j tn0).2) : ∀ {k : Nat}, k < ts.length → sumT (ts.take (k + 1)) ≤ sumT ts := by
  intro k hk
  obtain ⟨m, hm⟩ : ∃ m, ts.length - (k + 1) = m := ⟨_, rfl⟩
  induction m generalizing k with
  | zero => rw [show k + 1 = ts.length from by omega, sumT_all]; exact Int.le_refl _
  | succ m ih =>
    have a := ih (k := k + 1) (by omega) (by omega)
    have b := hp (k + 1) (by omega)
    rw [sumT_succ (by omega)] at a
    omega
/-- the owners written before the time t -/
def upTo (ts : List Tn) (t : Int) : Nat → Value := fun j => if (j : Int) < t then .int .i64 (whoT ts (j : Int)) else .int .i64 0

set_option maxHeartbeats 4000000 in
/-- impl.ownersByHour -/
theorem iowners (a : Option Addr) (cap : Nat) (ts : List Tn) (w : World) (h : IsTn w a ts) (hv : vtB ts = true) :
    Calls Try.prog 109 #[.slice a ts.length cap] w fun e w' => ∃ g : Nat, e = .returned (.slice (some ⟨g, 0, none⟩) (sumT ts).toNat (sumT ts).toNat) ∧ w.heap.size ≤ g ∧ Row w' g (ownT ts) ∧ Below w.heap.size w w' := by
  obtain ⟨l1, l24, ho, s1, s2⟩ := vt_is hv
  obtain ⟨N, hN⟩ : ∃ N : Nat, sumT ts = (N : Int) := ⟨_, (Int.toNat_of_nonneg (by omega)).symm⟩
  have hNt : (sumT ts).toNat = N := by omega
  have hol : (ownT ts).length = N := by rw [ownT_len, hNt]
  rw [hNt]
  have HS := Lib.hid h
  rcases h with rfl | ⟨g, o, rfl, hc⟩
  · simp at l1
  have HC := Lib.hid hc
  have HO := Lib.hid ho
  have HL := Lib.hid hol
  have HT := Lib.hid hNt
  have HP : Hid (∀ j, j < ts.length → 0 ≤ (ts.getD j tn0).2) := fun j hj => (vt_hz ho j hj).1
  have IH := fun W hW => ihours (some ⟨g, o, none⟩) cap ts W hW (by omega) (vt_hz ho)
  rw [hN] at IH
  have HN := Lib.hid hN
  have n1 : N ≤ 336 := by omega
  have n0 : 1 ≤ N := by omega
  have hmk := run_make_row' (P := Try.prog) 27 3 (.int .i64 0) 8 Try.underlying27 infoInt rfl .i64 .i64 N (by omega) (by omega)
  clear hc ho hol hNt hN s1 s2
  go_enter Try.func109, Try.ntmps109
  go_wp2_with fail
  refine (IH _ HS.out).mono ?_
  rintro e w1 ⟨rfl, C⟩
  clear IH
  have B0 := C
  clear C
  go_wp2_with fail
  clear hmk
  have hS : w.heap.size ≤ w1.heap.size := B0.size
  have hrow0 : (w1.alloc (.cells (madeCells #[.int .i64 0] N) 3)).rowIs w1.heap.size 3 N (upTo ts 0) := (World.rowIs_made w1 (.int .i64 0) N _).congr (fun i hi => by unfold upTo; rw [if_neg (by omega)])
  have hB0 := B0.alloc B0.size (.cells (madeCells #[.int .i64 0] N) 3)
  clear B0
  go_loopw [4, 13] (fun t i wr => ∃ k p : Nat, k ≤ ts.length ∧ i = .int .i64 k ∧ t = .int .i64 p ∧ Hid (sumT (ts.take k) = (p : Int)) ∧ wr.rowIs w1.heap.size 3 N (upTo ts p) ∧ Below w.heap.size w wr) (fun _ i _ => ts.length - (intOf i).toNat)
  case atStart => exact ⟨0, 0, Nat.zero_le _, rfl, rfl, rfl, hrow0, hB0⟩
  case round =>
    obtain ⟨k, p, hk, rfl, rfl, hp, hrow, hB⟩ := hrel
    clear hrow0 hB0
    by_cases hlt : k < ts.length
    · obtain ⟨c0, c1⟩ := tn_at HC.out hB hlt
      have ok := (okT_iff ts k).1 (HO.out k hlt)
      have hs := sumT_succ hlt
      have hidx : Hid (∀ q : Nat, p ≤ q → (q : Int) < p + (ts.getD k tn0).2 → whoT ts (q : Int) = (ts.getD k tn0).1) := fun q h1 h2 => by
        have e := idx_at k ts q hlt HP.out (by rw [hp.out]; omega) (by rw [hs, hp.out]; exact h2)
        unfold whoT; rw [e]
      have hle : (p : Int) + (ts.getD k tn0).2 ≤ N := by
        rw [← hp.out, ← hs, ← HN.out]; exact sumT_le HP.out hlt
      rw [hp.out] at hs
      generalize ts.getD k tn0 = hh at c0 c1 hs hidx hle ok
      obtain ⟨x, y⟩ := hh
      dsimp only at c0 c1 hs hidx hle ok
      have y0 : 1 ≤ y := ok.2.2.1
      have y1 : y ≤ 336 := ok.2.2.2
      have HS2 := Lib.hid hs
      have HB := Lib.hid hB
      have hlw := World.rowIs.lt hrow
      have HR := Lib.hid hrow
      clear hs hB hrow ok
      go_wp2_with fail
      have K0 : Blk (wr.alloc (.cells #[.int .i64 x, .int .i64 y] 84)) wr.heap.size 84 #[.int .i64 x, .int .i64 y] := Blk.new _ _ _
      have hneS : w1.heap.size ≠ wr.heap.size := by omega
      have hrow1 := World.rowIs.of_block HR.out (Below.heap_alloc wr (.cells #[.int .i64 x, .int .i64 y] 84) w1.heap.size hlw)
      have hB1 := HB.out.alloc HB.out.size (.cells #[.int .i64 x, .int .i64 y] 84)
      have hB1' : Hid (Below w.heap.size w (wr.alloc (.cells #[.int .i64 x, .int .i64 y] 84))) := hB1
      clear hB1 c0 c1
      go_loopw [4, 7] (fun t l wi => ∃ q : Nat, p ≤ q ∧ (q : Int) ≤ p + y ∧ t = .int .i64 q ∧ l = .int .i64 (p + y - q) ∧ wi.rowIs w1.heap.size 3 N (upTo ts q) ∧ Blk wi wr.heap.size 84 #[.int .i64 x, .int .i64 y] ∧ Below w.heap.size w wi) (fun _ l _ => (intOf l).toNat)
      case atStart => exact ⟨p, Nat.le_refl _, by omega, rfl, by rw [show (p : Int) + y - p = y from by omega], hrow1, K0, hB1'.out⟩
      case round =>
        obtain ⟨q, hq0, hq1, rfl, rfl, hrow, hK, hB⟩ := hrel
        clear hrow1 K0
        by_cases hlq : (q : Int) < p + y
        · have hqN : q < N := by omega
          have hd : wr.cell? ⟨w1.heap.size, q, none⟩ = some (.int .i64 0) := by rw [hrow.cell hqN]; unfold upTo; rw [if_neg (by omega)]
          have hf := hrow.frozen q
          have k0 := hK.cell 0
          dsimp at k0
          have hcon : (wr.setCell ⟨w1.heap.size, q, none⟩ (.int .i64 x)).rowIs w1.heap.size 3 N (upTo ts ((q + 1 : Nat) : Int)) := (hrow.set q (.int .i64 x)).congr (fun j hj => by
            show (if j = q then Value.int .i64 x else upTo ts q j) = upTo ts ((q + 1 : Nat) : Int) j
            unfold upTo
            by_cases e : j = q
            · subst e; rw [if_pos rfl, if_pos (by omega), hidx.out j hq0 hlq]
            · rw [if_neg e]
              by_cases e2 : (j : Int) < q
              · rw [if_pos e2, if_pos (by omega)]
              · rw [if_neg e2, if_neg (by omega)])
          have hK2 : Hid (Blk (wr.setCell ⟨w1.heap.size, q, none⟩ (.int .i64 x)) _ 84 #[.int .i64 x, .int .i64 y]) := hK.far (fun e => hneS e.symm) _
          have HR := Lib.hid hcon
          have HB2 : Hid (Below w.heap.size w (wr.setCell ⟨w1.heap.size, q, none⟩ (.int .i64 x))) := hB.setCell hS _
          have i0 : (0 : Int) ≤ (q : Int) := by omega
          have i1 : (q : Int) < (N : Int) := by omega
          have i2 : 0 < (p : Int) + y - q := by omega
          clear hcon hrow hB hK
          go_wp2
          go_roundw
          case rel => exact ⟨q + 1, by omega, by omega, by go_num, by rw [show (p : Int) + y - ((q + 1 : Nat) : Int) = p + y - q - 1 from by omega], HR.out, hK2.out, HB2.out⟩
          case measure => simp [intOf]; omega
        · have i2 : ¬ 0 < (p : Int) + y - q := by omega
          have hqe : (q : Int) = p + y := by omega
          have HR := Lib.hid hrow
          have HB := Lib.hid hB
          have HQ := Lib.hid hqe
          clear hrow hB hK hqe
          go_wp2
          go_roundw
          case rel => exact ⟨k + 1, q, by omega, by go_num, rfl, HS2.out.trans HQ.out.symm, HR.out, HB.out⟩
          case measure => simp [intOf]; omega
    · obtain rfl : k = ts.length := by omega
      have hpN : p = N := by
        have := hp.out
        rw [sumT_all, HN.out] at this
        omega
      have HR := Lib.hid hrow
      have HB := Lib.hid hB
      have HPN := Lib.hid hpN
      clear hrow hB hpN
      go_wp2
      go_ret
      refine ⟨w1.heap.size, rfl, hS, ?_, HB.out⟩
      unfold Row
      rw [HL.out]
      refine HR.out.congr (fun j hj => ?_)
      unfold upTo
      rw [if_pos (by rw [HPN.out]; omega), ownT_get _ (by rw [HT.out]; exact hj)]
end Go.Proofs.Ytclpbbhhaclgbaa
namespace Go.Proofs.Ytclpbbhhaclgbaa
open Go.RowKit
set_option linter.unusedSimpArgs false
set_option linter.unusedVariables false

theorem iownersN (a : Option Addr) (cap : Nat) (ts : List Tn) (w : World) (h : IsTn w a ts) (hv : vtB ts = true) (N : Nat) (hN : (sumT ts).toNat = N) :
    Calls Try.prog 109 #[.slice a ts.length cap] w fun e w' => ∃ g : Nat, e = .returned (.slice (some ⟨g, 0, none⟩) N N) ∧ Row w' g (ownT ts) ∧ Below w.heap.size w w' := by
  refine (iowners a cap ts w h hv).mono ?_
  rintro e w1 ⟨g, rfl, _, R, C⟩
  rw [hN]
  exact ⟨g, rfl, R, C⟩
theorem who_cell {w : World} {g N : Nat} {ts : List Tn} (R : Row w g (ownT ts)) (hN : (sumT ts).toNat = N) (h1 : 1 ≤ sumT ts) {a : Int} (ha : 0 ≤ a) : ∃ q : Nat, a % (N : Int) = (q : Int) ∧ q < N ∧ w.cell? ⟨g, q, none⟩ = some (.int .i64 (whoM ts a)) := by
  have e : (N : Int) = sumT ts := by omega
  have r0 := Int.emod_nonneg a (show (N : Int) ≠ 0 by omega)
  have r1 := Int.emod_lt_of_pos a (show 0 < (N : Int) by omega)
  obtain ⟨q, hq⟩ : ∃ q : Nat, a % (N : Int) = (q : Int) := ⟨_, (Int.toNat_of_nonneg r0).symm⟩
  have hqN : q < N := by omega
  refine ⟨q, hq, hqN, ?_⟩
  have := World.rowIs.cell R (i := q) (by rw [ownT_len, hN]; exact hqN)
  rw [ownT_get ts (by rw [hN]; exact hqN)] at this
  rw [this]
  unfold whoM
  rw [← e, hq]

set_option maxHeartbeats 1000000 in
theorem iPeriodOf (a : Option Addr) (cap : Nat) (ts : List Tn) (w : World) (h : IsTn w a ts) (hn : ts.length ≤ 1048576) (hc : ts.length ≤ cap) :
    Calls Try.prog 36 #[.slice a ts.length cap] w fun e w' => e = .returned (.int .i64 (perV ts)) ∧ Below w.heap.size w w' := by
  have IV := iVT a cap ts w h hn
  have H := Lib.hid h
  cases hv : vtB ts with
  | false =>
    have HP : Hid (perV ts = -1) := by show perV ts = -1; unfold perV; rw [hv]; rfl
    rw [hv] at IV
    clear hv h
    go_enter Try.func36, Try.ntmps36
    go_wp2_with fail
    refine IV.mono ?_
    rintro e w1 ⟨rfl, C⟩
    go_wp2_with fail
    go_ret
    exact ⟨ret_int HP.out.symm, C⟩
  | true =>
    have HP : Hid (perV ts = sumT ts) := by show perV ts = sumT ts; unfold perV; rw [hv]; rfl
    have HO := Lib.hid (vt_is hv).2.2.1
    rw [hv] at IV
    clear hv h
    go_enter Try.func36, Try.ntmps36
    go_wp2_with fail
    refine IV.mono ?_
    rintro e w1 ⟨rfl, C⟩
    have HC := Lib.hid C
    clear C
    go_wp2_with fail
    refine (ihours a cap ts _ (tn_below H.out HC.out) hn (vt_hz HO.out)).mono ?_
    rintro e w2 ⟨rfl, D⟩
    go_wp2_with fail
    go_ret
    exact ⟨ret_int HP.out.symm, bel_tr HC.out D⟩

end Go.Proofs.Ytclpbbhhaclgbaa
namespace Go.Proofs.Ytclpbbhhaclgbaa
open Go.RowKit
set_option linter.unusedSimpArgs false
set_option linter.unusedVariables false

theorem okT_bd {ts : List Tn} {k : Nat} (hk : k ≤ ts.length) (hn : ts.length ≤ 1048576) (h : ∀ j, j < k → okT ts j = true) : 0 ≤ sumT (ts.take k) ∧ sumT (ts.take k) ≤ 352321536 := by
  have := sumT_bd k hk h; omega
end Go.Proofs.Ytclpbbhhaclgbaa
