/- For every input the law answers true, and its argument reads afterwards as before: duties follow the weights. No condition. -/
import Derived.Test.YtigapnbpgbfbhabRows
import Derived.Test.YtigapnbpgbfbhabDrawDu
import Derived.Test.YtigapnbpgbfbhabDutI
import Derived.Test.YtigapnbpgbfbhabDutS
import Derived.Test.YtigapnbpgbfbhabEqI
import Derived.Test.YtigapnbpgbfbhabFlowIm
import Derived.Test.YtigapnbpgbfbhabHigh
import Derived.WalkKit
import Derived.Deep.RegionHeld3
import Derived.Deep.RegionWith
import Derived.Deep.QuietTactic
import Derived.BigQuiet
import Derived.RegionTactic
import Derived.ChangeAlike
import Derived.BigRegion
import Derived.ProofKit
import Derived.OpenShut
import Derived.ShutString
import Derived.ChangeOld
import Derived.Below
import Derived.Lib.SmallJoins
namespace Go.Proofs.Ytigapnbpgbfbhab.fnDutyOrder
open Go.ChangeShapes Go.WideShapes Go.ChangeAt Go.RowKit Go.Joins
open Go.ChangeMaps (open_string shut_string)
set_option linter.unusedVariables false
set_option linter.unusedSimpArgs false

theorem own : ownKnob Try.prog.godebug = none := by kernel_rfl
theorem laidOut : laidOutB Try.prog = true := by kernel_rfl

set_option maxRecDepth 100000 in
set_option maxHeartbeats 8000000 in
theorem walk (a0 : Option Addr) (len0 cap0 : Nat) (z0 : List Int) (w : World) (w0 : IsRow .u8 w a0 len0 cap0 z0) :
    Calls Try.prog 3 #[.slice a0 len0 cap0] w fun e w' => e = .returned (.bool true) ∧ Below w.heap.size w w' := by
  by_cases big : (1048576 : Int) < (len0 : Int)
  · go_enter Try.func3, Try.ntmps3
    go_wp2
    go_ret
    exact ⟨rfl, Below.refl _ _⟩
  go_enter Try.func3, Try.ntmps3
  go_wp2_with fail
  refine (drawDu a0 len0 cap0 z0 _ w0).mono ?_
  rintro e u1 ⟨n, b2, c2, ms, rfl, d0, d1, ml, IM, mz, B⟩
  clear w0 big mz
  have m1 : ms.length ≤ 1048576 := by omega
  obtain ⟨V, hV⟩ : ∃ V, duV n ms = V := ⟨_, rfl⟩
  have HI : Hid (∀  (W : World), (h2 : IsInts W b2 ms) → Calls Try.prog 15 #[.int .i64 n, .slice b2 ms.length c2] W (OutI W V)) := fun  W h2 => by rw [← hV]; exact iDuty n b2 c2 ms W h2 m1
  have HS : Hid (∀  (W : World), (h2 : IsInts W b2 ms) → Calls Try.prog 17 #[.int .i64 n, .slice b2 ms.length c2] W (OutI W V)) := fun  W h2 => by rw [← hV]; exact sDuty n b2 c2 ms W h2 m1
  by_cases hz : V.length = 0
  · have e0 : ((V.length : Int) == 0) = true := by rw [hz]; rfl
    have e1 : (V.length == 0) = true := by rw [hz]; rfl
    have hVl : V.length ≤ 1048576 := by omega
    have HQ : Hid (∀ (b : Option Addr) (b' : Option Addr) (c : Nat) (c' : Nat) (W : World), (h1 : IsInts W b V) → (h2 : IsInts W b' V) → Calls Try.prog 16 #[.slice b V.length c, .slice b' V.length c'] W (fun e w' => e = .returned (.bool true) ∧ Below W.heap.size W w')) := fun b b' c c' W h1 h2 => eqInts b b' c c' V W h1 h2 hVl
    clear hV hVl hz
    go_wp2_with fail
    refine (HI.out _ IM).mono ?_
    rintro e u2_ ⟨vo, rfl, Oo, C_⟩
    obtain ⟨bo, co, rfl, Io⟩ := Oo.ints
    clear Oo
    replace B := bel_tr B C_
    replace IM := ints_below IM C_
    clear C_
    go_wp2_with fail
    refine (HS.out _ IM).mono ?_
    rintro e u3_ ⟨vp, rfl, Op, C_⟩
    obtain ⟨bp, cp, rfl, Ip⟩ := Op.ints
    clear Op
    replace B := bel_tr B C_
    replace IM := ints_below IM C_
    replace Io := ints_below Io C_
    clear C_
    go_wp2_with fail
    refine (HQ.out _ _ _ _ _ Io Ip).mono ?_
    rintro e u4_ ⟨rfl, C_⟩
    replace B := bel_tr B C_
    replace IM := ints_below IM C_
    replace Io := ints_below Io C_
    replace Ip := ints_below Ip C_
    clear C_
    go_wp2_with fail
    clear Ip
    refine (HS.out _ IM).mono ?_
    rintro e u5_ ⟨vq, rfl, Oq, C_⟩
    obtain ⟨bq, cq, rfl, Iq⟩ := Oq.ints
    clear Oq
    replace B := bel_tr B C_
    replace IM := ints_below IM C_
    replace Io := ints_below Io C_
    clear C_
    go_wp2_with fail
    refine (HQ.out _ _ _ _ _ Io Iq).mono ?_
    rintro e u6_ ⟨rfl, C_⟩
    replace B := bel_tr B C_
    replace IM := ints_below IM C_
    replace Io := ints_below Io C_
    replace Iq := ints_below Iq C_
    clear C_
    go_wp2_with fail
    go_ret
    exact ⟨rfl, B⟩
  have e0 : ((V.length : Int) == 0) = false := beq_eq_false_iff_ne.2 (by omega)
  have e1 : (V.length == 0) = false := beq_eq_false_iff_ne.2 hz
  have hcs : csB n ms = true := by
    cases h : csB n ms with
    | true => rfl
    | false => exact absurd (by rw [← hV, duV_no h]; rfl) hz
  obtain ⟨⟨n0, n1⟩, hv⟩ := cs_yes hcs
  obtain ⟨N, hN⟩ : ∃ N : Nat, n = (N : Int) := ⟨n.toNat, by omega⟩
  subst hN
  have l1 := ws_ne hv
  rw [duV_yes hcs, show ((N : Int)).toNat = N from by omega] at hV
  have hVN : V.length = N := by rw [← hV, dutF_len]
  have HQ : Hid (∀ (b : Option Addr) (b' : Option Addr) (c : Nat) (c' : Nat) (W : World), (h1 : IsInts W b V) → (h2 : IsInts W b' V) → Calls Try.prog 16 #[.slice b V.length c, .slice b' V.length c'] W (fun e w' => e = .returned (.bool true) ∧ Below W.heap.size W w')) := fun b b' c c' W h1 h2 => eqInts b b' c c' V W h1 h2 (by omega)
  have HCN : Hid (∀ d, d ≤ N → ∀ i, i < ms.length → cntTo (V.take d) (i : Int) d = (avgTo 2 ms d).getD i 0) := fun d hd i hi => by
    rw [cnt_take V _ d d (Nat.le_refl _), ← hV]; exact dut_count l1 hi d hd
  have HVN := Lib.hid hVN
  have q0 : ((V.length : Int) == (N : Int)) = true := by rw [hVN]; exact beq_self_eq_true _
  have q1 : (V.length == N) = true := by rw [hVN]; exact beq_self_eq_true _
  have td : ((V.length : Nat) : Int).tdiv 12 = ((V.length / 12 : Nat) : Int) := by rw [Int.tdiv_eq_ediv_of_nonneg (by omega)]; rfl
  have hv500 : V.length ≤ 500 := by omega
  have HM : Hid (∀ (d : Nat) (W : World), (h0 : d ≤ N) → (h2 : IsInts W b2 ms) → Calls Try.prog 18 #[.int .i64 (d : Int), .slice b2 ms.length c2] W (OutI W (avgTo 2 ms d))) := fun d W h0 h2 => by have h := imidV (d : Int) b2 c2 ms W h2 m1; rw [if_pos (show csB (d : Int) ms = true from by rw [cs_is (by omega)]; exact hv), show sa 2 (d : Int) ms = avgTo 2 ms d from by unfold sa; rw [show ((d : Int)).toNat = d from by omega]] at h; exact h
  clear hV hVN hcs hv hz
  go_wp2_with fail
  refine (HI.out _ IM).mono ?_
  rintro e u2_ ⟨vo, rfl, Oo, C_⟩
  obtain ⟨bo, co, rfl, Io⟩ := Oo.ints
  have hco := own_capI Oo
  clear Oo
  replace B := bel_tr B C_
  replace IM := ints_below IM C_
  clear C_
  go_wp2_with fail
  refine (HS.out _ IM).mono ?_
  rintro e u3_ ⟨vp, rfl, Op, C_⟩
  obtain ⟨bp, cp, rfl, Ip⟩ := Op.ints
  clear Op
  replace B := bel_tr B C_
  replace IM := ints_below IM C_
  replace Io := ints_below Io C_
  clear C_
  go_wp2_with fail
  refine (HQ.out _ _ _ _ _ Io Ip).mono ?_
  rintro e u4_ ⟨rfl, C_⟩
  replace B := bel_tr B C_
  replace IM := ints_below IM C_
  replace Io := ints_below Io C_
  replace Ip := ints_below Ip C_
  clear C_
  go_wp2_with fail
  clear Ip
  clear HI HS HQ
  have HIM := Lib.hid IM
  have HIo := Lib.hid Io
  have HB0 := Lib.hid B
  clear B IM Io
  go_loopw [6] (fun i wr => ∃ d : Nat, d ≤ V.length + 1 + V.length / 12 ∧ i = .int .i64 d ∧ Below u4_.heap.size u4_ wr) (fun i _ => V.length + 1 - (intOf i).toNat)
  case atStart => exact ⟨0, Nat.zero_le _, rfl, Below.refl _ _⟩
  case round =>
    obtain ⟨d, hd, rfl, hB⟩ := hrel
    by_cases hdl : d ≤ V.length
    · have hdn : d ≤ N := by have := HVN.out; omega
      have CM := HM.out d wr hdn (ints_below HIM.out hB)
      have hgl := avgTo_len 2 ms d
      have HC := Lib.hid (HCN.out d hdn)
      have e2 : decide ((d : Int) ≤ (V.length : Int)) = true := decide_eq_true (by omega)
      have d2 : (d : Int) ≤ (V.length : Int) := by omega
      have d3 : (d : Int) ≤ (co : Int) := by omega
      have HB := Lib.hid hB
      generalize avgTo 2 ms d = G at CM hgl HC
      have HGL := Lib.hid hgl
      clear hB hgl
      go_wp2_with fail
      refine CM.mono ?_
      rintro e w3 ⟨v, rfl, O, C⟩
      obtain ⟨bg, cg, rfl, Ig⟩ := O.ints
      have HB3 := Lib.hid (bel_tr HB.out C)
      have HIg := Lib.hid Ig
      have hgl2 : G.length ≤ 1048576 := by have := HGL.out; omega
      clear O C Ig CM HB
      go_wp2_with fail
      go_loopw [8] (fun i wi => ∃ k : Nat, k ≤ G.length ∧ i = .int .i64 k ∧ Below w3.heap.size w3 wi) (fun i _ => G.length - (intOf i).toNat)
      case atStart => exact ⟨0, Nat.zero_le _, rfl, Below.refl _ _⟩
      case round =>
        obtain ⟨i, hi, rfl, hB⟩ := hrel
        by_cases hit : i < G.length
        · have ag := ints_below HIg.out hB
          have ao := ints_below HIo.out (bel_tr HB3.out hB)
          have hc := HC.out i (by have := HGL.out; omega)
          rcases ag with hnil | ⟨gg, og, rfl, hg⟩
          · rw [hnil] at hit; exact absurd hit (Nat.not_lt_zero _)
          have xg := hg i hit
          have i0 : (0 : Int) ≤ (i : Int) := by omega
          have i1 : (i : Int) < (G.length : Int) := by omega
          have HAO := Lib.hid (ints_takeD ao d)
          have KC := Lib.hid (fun (W : World) (q : Nat) (h : IsInts (W.drewN q) bo (V.take d)) => Calls.quiet_of_same (w := W) (n := q) ((lcount d bo co (V.take d) (i : Int) (W.drewN q) (by rw [List.length_take]; omega) h (by omega)).mono (fun _ _ h => ⟨h.1, h.2.symm⟩)))
          rw [hc] at KC
          generalize G.getD i 0 = y at xg KC
          clear hg hc ao
          go_wp2_with fail
          go_quiet (first | (go_at_call 19; exact KC.out _ _ HAO.out))
          go_wp2
          go_roundw
          case rel => exact ⟨i + 1, by omega, by go_num, below_drewN hB _⟩
          case measure => simp [intOf]; omega
        · have hit2 : ¬ (i : Int) < (G.length : Int) := by omega
          have HB4 := Lib.hid (bel_tr HB3.out hB)
          have wz : IntKind.i64.wrap ((d : Int) + 1) = (d : Int) + 1 := by rw [IntKind.wrap_i64]; omega
          have wz2 : IntKind.i64.wrap ((V.length / 12 : Nat) : Int) = ((V.length / 12 : Nat) : Int) := by rw [IntKind.wrap_i64]; omega
          have wz3 : IntKind.i64.wrap ((d : Int) + 1 + ((V.length / 12 : Nat) : Int)) = ((d + 1 + V.length / 12 : Nat) : Int) := by rw [IntKind.wrap_i64]; omega
          clear hB
          go_wp2_with fail
          go_roundw
          case rel => exact ⟨d + 1 + V.length / 12, by omega, by first | rfl | (rw [wz3]) | go_num, HB4.out⟩
          case measure => simp only [intOf]; omega
    · have e2 : decide ((d : Int) ≤ (V.length : Int)) = false := decide_eq_false (by omega)
      have d2 : ¬ (d : Int) ≤ (V.length : Int) := by omega
      have B := bel_tr HB0.out hB
      clear hB
      go_wp2_with fail
      go_ret
      exact ⟨rfl, B⟩

set_option maxRecDepth 100000 in
theorem lifted (os : Os) (started : os.Started) (H : Type) (enc : TypeId × Value → H) :
    ReturnsInHanded {} Try.checked os 3 .any (Rows.fnDutyOrderSpec.pre6 enc Try.prog Try.f3 Rows.fnDutyOrderRow.domain false) (Rows.fnDutyOrderSpec.post enc Try.prog Try.f3 false true false false) := by
  refine returnsInHanded_of_change (C := Try.checked) own started (by kernel_rfl) Try.func3
    (ChangeSpec.witness6 (enc := enc) (C := Try.checked) false ⟨#[], #[.slice none 0 0], []⟩ 8 (by kernel_rfl) (by kernel_rfl) (by kernel_rfl) (by kernel_rfl)) ?_
  intro W base args ds gs before hval0 hW hcnd _
  have hval : ∀ (j : Nat) t v, Try.f3.params[j]? = some t → args[j]? = some v → Value.okWide Try.prog W .any base t v := hval0
  have hW' := hW
  obtain ⟨p, q, hA0, hV, rfl, hfz, hnd⟩ := hW
  have hA : DataW.TrodAll enc Try.prog W 0 (fun _ => true) true Try.f3.params.toList args.toList ds p := hA0
  rw [Try.params3] at hA hval
  obtain ⟨v0, vs0, e0, es0, p0, q0, hargs, rfl, rfl, h0, r0⟩ := trodAll_cons hA
  obtain ⟨rfl, rfl, rfl⟩ := trodAll_nil r0
  obtain rfl : args = #[v0] := by cases args; simp_all
  obtain ⟨rfl, rfl⟩ := trodVars_none hV
  have k0 := h0
  have lt0 : ∀ x ∈ p0, x.block < W.heap.size := by obtain ⟨m, hm⟩ := k0; exact DataW.trod_lt m _ _ _ hm
  obtain ⟨a0, len0, cap0, rfl⟩ := okWide_slice Try.underlying22 (hval 0 22 v0 rfl rfl)
  obtain ⟨z0, w0⟩ : ∃ zs, IsRow .u8 W a0 len0 cap0 zs := by
    obtain ⟨fuel, hf⟩ := h0
    rcases open_ints Try.underlying22 Try.underlying5 (by kernel_rfl) hf with ⟨hcs, _⟩ | ⟨x, l, c, zs, hcs, _, hl, hm, hz, _, hcell, hwz⟩
    · simp [Value.cells] at hcs
      obtain ⟨rfl, rfl, rfl⟩ := hcs
      exact ⟨[], .inl ⟨rfl, rfl, rfl, rfl⟩⟩
    · simp [Value.cells] at hcs
      obtain ⟨rfl, rfl, rfl⟩ := hcs
      exact ⟨zs, .inr ⟨_, rfl, hl, hm, by simpa using hz, hcell, hwz⟩⟩
  clear hA0 hval0
  refine (walk a0 len0 cap0 z0 W w0).mono fun e W' ⟨he, bel⟩ => ?_
  subst he
  exact ⟨_, rfl, _, _, _, [], _, [], hW', trodAll_mk1 (shut_bool Try.underlying4 _), (trodAll_cons_mk (Below.trod laidOut (by kernel_rfl) (of_decide_eq_true (by kernel_rfl)) k0 bel lt0) trodAll_mk0), rfl, bel.frame _, fun h => by cases h⟩

theorem over : Rows.fnDutyOrderRow.holds Try.pinned (OpenSpec.ofChange Rows.fnDutyOrderSpec) :=
  OpenClaim.holds_of_wide 3 Try.f3 rfl rfl rfl rfl rfl rfl rfl ⟨rfl, rfl, rfl, rfl, rfl⟩ rfl rfl rfl rfl rfl (by kernel_rfl) Try.func3 (by kernel_rfl)
    (of_decide_eq_true (by kernel_rfl)) (by unfold Func.isWrapper; first | (rw [if_pos (by decide +kernel)]; kernel_rfl) | (rw [if_neg (by decide +kernel)]; exact ⟨rfl, rfl⟩))
    (fun os started H enc _ => lifted os started H enc)

end Go.Proofs.Ytigapnbpgbfbhab.fnDutyOrder
namespace Go.Proofs.Ytigapnbpgbfbhab
/-- the statement -/
theorem fnDutyOrder_holds : Rows.FnDutyOrderSaid := fnDutyOrder.over
end Go.Proofs.Ytigapnbpgbfbhab
