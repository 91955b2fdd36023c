/- For every input the law answers true, and its argument reads afterwards as before: units are near to the weights. No condition. -/
import Derived.Test.YtlpmeljneogpiabRows
import Derived.Test.YtlpmeljneogpiabLawsI
import Derived.Test.YtlpmeljneogpiabMathR
import Derived.Test.YtlpmeljneogpiabAvgS
import Derived.WalkKit
import Derived.ProofKit
import Derived.OpenShut
import Derived.ShutString
import Derived.ChangeOld
import Derived.Below
import Derived.Lib.SmallJoins
namespace Go.Proofs.Ytlpmeljneogpiab.fnSplitByMiddle
open Go.ChangeShapes Go.WideShapes Go.ChangeAt Go.RowKit Go.Joins
open Go.ChangeMaps (open_string shut_string)
set_option linter.unusedVariables false

theorem own : ownKnob Try.prog.godebug = none := by kernel_rfl
theorem laidOut : laidOutB Try.prog = true := by kernel_rfl

set_option maxHeartbeats 2000000 in
theorem walk (a0 : Option Addr) (len0 cap0 : Nat) (z0 : List Int) (w : World) (w0 : IsRow .u8 w a0 len0 cap0 z0) :
    Calls Try.prog 10 #[.slice a0 len0 cap0] w fun e w' => e = .returned (.bool true) ∧ Below w.heap.size w w' := by
  by_cases big : (1048576 : Int) < (len0 : Int)
  · go_enter Try.func10, Try.ntmps10
    go_wp2
    go_ret
    exact ⟨rfl, Below.refl _ _⟩
  go_enter Try.func10, Try.ntmps10
  go_wp2_with fail
  refine (drawSplitByMiddle a0 len0 cap0 z0 _ w0).mono ?_
  rintro e u1 ⟨n, b, cp, xs, rfl, n0, n1, hl, hi, hz, B1⟩
  clear w0 big
  have hln : xs.length ≤ 1048576 := by omega
  have HI := Lib.hid hi
  have HZ := Lib.hid hz
  clear hi hz
  cases hcs : csB n xs with
  | false =>
    have HK := Lib.hid hcs
    clear hcs
    go_wp2_with fail
    refine (imiddle_no n _ _ xs _ HI.out hln HK.out).mono ?_
    rintro e w' ⟨rfl, rfl⟩
    go_wp2_with fail
    refine (smiddle_no n _ _ xs _ HI.out hln HK.out).mono ?_
    rintro e w' ⟨rfl, rfl⟩
    go_wp2_with fail
    refine (lequal none none 0 0 [] _ (.inl rfl) (.inl rfl) (by simp)).mono ?_
    rintro e u2 ⟨rfl, C2⟩
    have B2 := bel_tr B1 C2
    go_wp2_with fail
    refine (smiddle_no n _ _ xs _ (ints_below HI.out C2) hln HK.out).mono ?_
    rintro e w' ⟨rfl, rfl⟩
    go_wp2_with fail
    refine (lequal none none 0 0 [] _ (.inl rfl) (.inl rfl) (by simp)).mono ?_
    rintro e u3 ⟨rfl, C3⟩
    go_wp2_with fail
    go_ret
    exact ⟨rfl, bel_tr B2 C3⟩
  | true =>
    have hv := (cs_yes hcs).2
    have n00 := (cs_yes hcs).1.1
    have n01 := (cs_yes hcs).1.2
    have l1 := ws_ne hv
    have l1' : ((xs.length : Int) == 0) = false := by rw [beq_eq_false_iff_ne]; omega
    have hq : (sa 2 n xs).length = xs.length := sa_len 2 n xs
    have HK := Lib.hid hcs
    have HV := Lib.hid hv
    have HQ := Lib.hid hq
    clear hcs hq hv
    go_wp2_with fail
    refine (imiddle n _ _ xs _ HI.out hln HK.out).mono ?_
    rintro e u2 ⟨g, rfl, lg, R2, C2⟩
    have B2 := bel_tr B1 C2
    have I2 := ints_below HI.out C2
    go_wp2_with fail
    refine (smiddle n _ _ xs _ I2 hln HK.out).mono ?_
    rintro e u3 ⟨b3, cp3, rfl, J3, C3⟩
    have B3 := bel_tr B2 C3
    have I3 := ints_below I2 C3
    have R3 := row_keep R2 C3
    go_wp2_with fail
    refine (lequalN xs.length _ _ _ _ (sa 2 n xs) _ HQ.out (row_ints R3) J3 hln).mono ?_
    rintro e u4 ⟨rfl, C4⟩
    have B4 := bel_tr B3 C4
    have I4 := ints_below I3 C4
    have R4 := row_keep R3 C4
    clear I2 I3 R2 R3 J3 C2 C3 C4 B1 B2 B3
    rcases I4 with rfl | ⟨gw, ow, rfl, hc⟩
    · exact absurd l1 (by simp)
    have HC := Lib.hid hc
    clear hc
    have HR4 := Lib.hid R4
    clear R4
    have HF := Lib.hid (sa_facts HK.out (step := 2) (by omega))
    go_wp2_with fail
    go_loopw [6] (fun i wr => ∃ a : Nat, a ≤ xs.length ∧ i = .int .i64 a ∧ Below u4.heap.size u4 wr) (fun i _ => xs.length - (intOf i).toNat)
    case atStart => exact ⟨0, Nat.zero_le _, rfl, Below.refl _ _⟩
    case round =>
      obtain ⟨a, ha, rfl, hB⟩ := hrel
      by_cases hla : a < xs.length
      · go_wp2_with fail
        go_loopw [7] (fun k wr => ∃ c : Nat, c ≤ xs.length ∧ k = .int .i64 c ∧ Below u4.heap.size u4 wr) (fun k _ => xs.length - (intOf k).toNat)
        case atStart => exact ⟨0, Nat.zero_le _, rfl, hB⟩
        case round =>
          obtain ⟨c, hc, rfl, hB⟩ := hrel
          by_cases hlc : c < xs.length
          · have c1 := (hB.cell (p := ⟨gw, ow + a, none⟩) (World.block_lt_of_cell? u4 _ (HC.out a hla))).trans (HC.out a hla)
            have c2 := (hB.cell (p := ⟨gw, ow + c, none⟩) (World.block_lt_of_cell? u4 _ (HC.out c hlc))).trans (HC.out c hlc)
            have c3 := World.rowIs.cell (row_keep HR4.out hB) (i := a) (by rw [HQ.out]; exact hla)
            have c4 := World.rowIs.cell (row_keep HR4.out hB) (i := c) (by rw [HQ.out]; exact hlc)
            have he := mid_env HK.out hla hlc
            have b1 := HF.out.2.2 a hla
            have b2 := HF.out.2.2 c hlc
            have b3 := all_get HV.out hla
            have b4 := all_get HV.out hlc
            generalize xs.getD a 0 = x at *
            generalize xs.getD c 0 = y at *
            generalize (sa 2 n xs).getD a 0 = u at *
            generalize (sa 2 n xs).getD c 0 = v at *
            have i0 : (0 : Int) ≤ (a : Int) := by omega
            have i1 : (a : Int) < (xs.length : Int) := by omega
            have i2 : (0 : Int) ≤ (c : Int) := by omega
            have i3 : (c : Int) < (xs.length : Int) := by omega
            by_cases hv : 0 < v
            · have he := he hv
              have p1 : 0 ≤ x * (2 * v - 1) := Int.mul_nonneg b3.1 (by omega)
              have p2 : x * (2 * v - 1) ≤ 1000 * 999 := Int.mul_le_mul b3.2 (by omega) (by omega) (by omega)
              have p3 : 0 ≤ y * (2 * u + 1) := Int.mul_nonneg b4.1 (by omega)
              have p4 : y * (2 * u + 1) ≤ 1000 * 1001 := Int.mul_le_mul b4.2 (by omega) (by omega) (by omega)
              have t1 : IntKind.i64.wrap (2 * v) = 2 * v := wrap_of (by omega)
              have t2 : IntKind.i64.wrap (2 * v - 1) = 2 * v - 1 := wrap_of (by omega)
              have t3 : IntKind.i64.wrap (2 * u) = 2 * u := wrap_of (by omega)
              have t4 : IntKind.i64.wrap (2 * u + 1) = 2 * u + 1 := wrap_of (by omega)
              have t5 : IntKind.i64.wrap (x * (2 * v - 1)) = x * (2 * v - 1) := wrap_of (by omega)
              have t6 : IntKind.i64.wrap (y * (2 * u + 1)) = y * (2 * u + 1) := wrap_of (by omega)
              have d1 : decide (y * (2 * u + 1) < x * (2 * v - 1)) = false := decide_eq_false (by omega)
              go_wp2_with fail
              go_quiet (fail)
              go_wp2
              go_roundw
              case rel => exact ⟨c + 1, by omega, by go_num, below_drewN hB _⟩
              case measure => simp [intOf]; omega
            · have d1 : decide (0 < v) = false := decide_eq_false hv
              clear he
              go_wp2_with fail
              go_quiet (fail)
              go_wp2
              go_roundw
              case rel => exact ⟨c + 1, by omega, by go_num, below_drewN hB _⟩
              case measure => simp [intOf]; omega
          · go_wp2
            go_roundw
            case rel => exact ⟨a + 1, by omega, by go_num, hB⟩
            case measure => simp [intOf]; omega
      · have HA := Lib.hid (fun z (hz : z ∈ sa 2 n xs) => all_of_get (fun i hi => HF.out.2.2 i (by rw [← HQ.out]; exact hi)) (m := 1000000) (by omega) z hz)
        have hs := HF.out.1
        go_wp2_with fail
        refine (ltotalN xs.length _ _ (sa 2 n xs) _ HQ.out (row_ints (row_keep HR4.out hB)) hln HA.out).mono ?_
        rintro e w' ⟨rfl, rfl⟩
        rw [hs]
        clear hs
        go_wp2_with fail
        go_ret
        exact ⟨rfl, bel_tr B4 hB⟩

set_option maxRecDepth 100000 in
theorem lifted (os : Os) (started : os.Started) (H : Type) (enc : TypeId × Value → H) :
    ReturnsInHanded {} Try.checked os 10 .any (Rows.fnSplitByMiddleSpec.pre6 enc Try.prog Try.f10 Rows.fnSplitByMiddleRow.domain false) (Rows.fnSplitByMiddleSpec.post enc Try.prog Try.f10 false true false false) := by
  refine returnsInHanded_of_change (C := Try.checked) own started (by kernel_rfl) Try.func10
    (ChangeSpec.witness6 (enc := enc) (C := Try.checked) false ⟨#[], #[.slice none 0 0], []⟩ 8 (by kernel_rfl) (by kernel_rfl) (by kernel_rfl) (by kernel_rfl)) ?_
  intro W base args ds gs before hval0 hW hcnd _
  have hval : ∀ (j : Nat) t v, Try.f10.params[j]? = some t → args[j]? = some v → Value.okWide Try.prog W .any base t v := hval0
  have hW' := hW
  obtain ⟨p, q, hA0, hV, rfl, hfz, hnd⟩ := hW
  have hA : DataW.TrodAll enc Try.prog W 0 (fun _ => true) true Try.f10.params.toList args.toList ds p := hA0
  rw [Try.params10] at hA hval
  obtain ⟨v0, vs0, e0, es0, p0, q0, hargs, rfl, rfl, h0, r0⟩ := trodAll_cons hA
  obtain ⟨rfl, rfl, rfl⟩ := trodAll_nil r0
  obtain rfl : args = #[v0] := by cases args; simp_all
  obtain ⟨rfl, rfl⟩ := trodVars_none hV
  have k0 := h0
  have lt0 : ∀ x ∈ p0, x.block < W.heap.size := by obtain ⟨m, hm⟩ := k0; exact DataW.trod_lt m _ _ _ hm
  obtain ⟨a0, len0, cap0, rfl⟩ := okWide_slice Try.underlying22 (hval 0 22 v0 rfl rfl)
  obtain ⟨z0, w0⟩ : ∃ zs, IsRow .u8 W a0 len0 cap0 zs := by
    obtain ⟨fuel, hf⟩ := h0
    rcases open_ints Try.underlying22 Try.underlying5 (by kernel_rfl) hf with ⟨hcs, _⟩ | ⟨x, l, c, zs, hcs, _, hl, hm, hz, _, hcell, hwz⟩
    · simp [Value.cells] at hcs
      obtain ⟨rfl, rfl, rfl⟩ := hcs
      exact ⟨[], .inl ⟨rfl, rfl, rfl, rfl⟩⟩
    · simp [Value.cells] at hcs
      obtain ⟨rfl, rfl, rfl⟩ := hcs
      exact ⟨zs, .inr ⟨_, rfl, hl, hm, by simpa using hz, hcell, hwz⟩⟩
  clear hA0 hval0
  refine (walk a0 len0 cap0 z0 W w0).mono fun e W' ⟨he, bel⟩ => ?_
  subst he
  exact ⟨_, rfl, _, _, _, [], _, [], hW', trodAll_mk1 (shut_bool Try.underlying4 _), (trodAll_cons_mk (Below.trod laidOut (by kernel_rfl) (of_decide_eq_true (by kernel_rfl)) k0 bel lt0) trodAll_mk0), rfl, bel.frame _, fun h => by cases h⟩

theorem over : Rows.fnSplitByMiddleRow.holds Try.pinned (OpenSpec.ofChange Rows.fnSplitByMiddleSpec) :=
  OpenClaim.holds_of_wide 10 Try.f10 rfl rfl rfl rfl rfl rfl rfl ⟨rfl, rfl, rfl, rfl, rfl⟩ rfl rfl rfl rfl rfl (by kernel_rfl) Try.func10 (by kernel_rfl)
    (of_decide_eq_true (by kernel_rfl)) (by unfold Func.isWrapper; first | (rw [if_pos (by decide +kernel)]; kernel_rfl) | (rw [if_neg (by decide +kernel)]; exact ⟨rfl, rfl⟩))
    (fun os started H enc _ => lifted os started H enc)

end Go.Proofs.Ytlpmeljneogpiab.fnSplitByMiddle
namespace Go.Proofs.Ytlpmeljneogpiab
/-- the statement -/
theorem fnSplitByMiddle_holds : Rows.FnSplitByMiddleSaid := fnSplitByMiddle.over
end Go.Proofs.Ytlpmeljneogpiab
