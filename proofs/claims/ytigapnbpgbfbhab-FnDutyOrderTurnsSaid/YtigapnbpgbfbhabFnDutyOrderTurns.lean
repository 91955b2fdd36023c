/- For every input the law answers true, and its argument reads afterwards as before: equal weights take turns. No condition. -/
import Derived.Test.YtigapnbpgbfbhabRows
import Derived.Test.YtigapnbpgbfbhabDrawDu
import Derived.Test.YtigapnbpgbfbhabDutI
import Derived.Test.YtigapnbpgbfbhabDutS
import Derived.Test.YtigapnbpgbfbhabEqI
import Derived.Test.YtigapnbpgbfbhabLawBa
import Derived.WalkKit
import Derived.Deep.RegionHeld3
import Derived.Deep.RegionWith
import Derived.Deep.QuietTactic
import Derived.BigQuiet
import Derived.RegionTactic
import Derived.ChangeAlike
import Derived.BigRegion
import Derived.ProofKit
import Derived.OpenShut
import Derived.ShutString
import Derived.ChangeOld
import Derived.Below
import Derived.Lib.SmallJoins
namespace Go.Proofs.Ytigapnbpgbfbhab.fnDutyOrderTurns
open Go.ChangeShapes Go.WideShapes Go.ChangeAt Go.RowKit Go.Joins
open Go.ChangeMaps (open_string shut_string)
set_option linter.unusedVariables false
set_option linter.unusedSimpArgs false

theorem own : ownKnob Try.prog.godebug = none := by kernel_rfl
theorem laidOut : laidOutB Try.prog = true := by kernel_rfl

set_option maxRecDepth 100000 in
set_option maxHeartbeats 8000000 in
theorem walk (a0 : Option Addr) (len0 cap0 : Nat) (z0 : List Int) (w : World) (w0 : IsRow .u8 w a0 len0 cap0 z0) :
    Calls Try.prog 4 #[.slice a0 len0 cap0] w fun e w' => e = .returned (.bool true) ∧ Below w.heap.size w w' := by
  by_cases big : (1048576 : Int) < (len0 : Int)
  · go_enter Try.func4, Try.ntmps4
    go_wp2
    go_ret
    exact ⟨rfl, Below.refl _ _⟩
  go_enter Try.func4, Try.ntmps4
  go_wp2_with fail
  refine (drawDu a0 len0 cap0 z0 _ w0).mono ?_
  rintro e u1 ⟨n, b2, c2, ms, rfl, d0, d1, ml, IM, mz, B⟩
  clear w0 big mz
  have m1 : ms.length ≤ 1048576 := by omega
  obtain ⟨V, hV⟩ : ∃ V, duV n ms = V := ⟨_, rfl⟩
  have HI : Hid (∀  (W : World), (h2 : IsInts W b2 ms) → Calls Try.prog 15 #[.int .i64 n, .slice b2 ms.length c2] W (OutI W V)) := fun  W h2 => by rw [← hV]; exact iDuty n b2 c2 ms W h2 m1
  have HS : Hid (∀  (W : World), (h2 : IsInts W b2 ms) → Calls Try.prog 17 #[.int .i64 n, .slice b2 ms.length c2] W (OutI W V)) := fun  W h2 => by rw [← hV]; exact sDuty n b2 c2 ms W h2 m1
  by_cases hz : V.length = 0
  · have e0 : ((V.length : Int) == 0) = true := by rw [hz]; rfl
    have e1 : (V.length == 0) = true := by rw [hz]; rfl
    have hVl : V.length ≤ 1048576 := by omega
    have HQ : Hid (∀ (b : Option Addr) (b' : Option Addr) (c : Nat) (c' : Nat) (W : World), (h1 : IsInts W b V) → (h2 : IsInts W b' V) → Calls Try.prog 16 #[.slice b V.length c, .slice b' V.length c'] W (fun e w' => e = .returned (.bool true) ∧ Below W.heap.size W w')) := fun b b' c c' W h1 h2 => eqInts b b' c c' V W h1 h2 hVl
    clear hV hVl hz
    go_wp2_with fail
    refine (HI.out _ IM).mono ?_
    rintro e u2_ ⟨vo, rfl, Oo, C_⟩
    obtain ⟨bo, co, rfl, Io⟩ := Oo.ints
    clear Oo
    replace B := bel_tr B C_
    replace IM := ints_below IM C_
    clear C_
    go_wp2_with fail
    refine (HS.out _ IM).mono ?_
    rintro e u3_ ⟨vp, rfl, Op, C_⟩
    obtain ⟨bp, cp, rfl, Ip⟩ := Op.ints
    clear Op
    replace B := bel_tr B C_
    replace IM := ints_below IM C_
    replace Io := ints_below Io C_
    clear C_
    go_wp2_with fail
    refine (HQ.out _ _ _ _ _ Io Ip).mono ?_
    rintro e u4_ ⟨rfl, C_⟩
    replace B := bel_tr B C_
    replace IM := ints_below IM C_
    replace Io := ints_below Io C_
    replace Ip := ints_below Ip C_
    clear C_
    go_wp2_with fail
    clear Ip
    refine (HS.out _ IM).mono ?_
    rintro e u5_ ⟨vq, rfl, Oq, C_⟩
    obtain ⟨bq, cq, rfl, Iq⟩ := Oq.ints
    clear Oq
    replace B := bel_tr B C_
    replace IM := ints_below IM C_
    replace Io := ints_below Io C_
    clear C_
    go_wp2_with fail
    refine (HQ.out _ _ _ _ _ Io Iq).mono ?_
    rintro e u6_ ⟨rfl, C_⟩
    replace B := bel_tr B C_
    replace IM := ints_below IM C_
    replace Io := ints_below Io C_
    replace Iq := ints_below Iq C_
    clear C_
    go_wp2_with fail
    go_ret
    exact ⟨rfl, B⟩
  have e0 : ((V.length : Int) == 0) = false := beq_eq_false_iff_ne.2 (by omega)
  have e1 : (V.length == 0) = false := beq_eq_false_iff_ne.2 hz
  have hcs : csB n ms = true := by
    cases h : csB n ms with
    | true => rfl
    | false => exact absurd (by rw [← hV, duV_no h]; rfl) hz
  obtain ⟨⟨n0, n1⟩, hv⟩ := cs_yes hcs
  obtain ⟨N, hN⟩ : ∃ N : Nat, n = (N : Int) := ⟨n.toNat, by omega⟩
  subst hN
  have l1 := ws_ne hv
  rw [duV_yes hcs, show ((N : Int)).toNat = N from by omega] at hV
  have hVN : V.length = N := by rw [← hV, dutF_len]
  have HQ : Hid (∀ (b : Option Addr) (b' : Option Addr) (c : Nat) (c' : Nat) (W : World), (h1 : IsInts W b V) → (h2 : IsInts W b' V) → Calls Try.prog 16 #[.slice b V.length c, .slice b' V.length c'] W (fun e w' => e = .returned (.bool true) ∧ Below W.heap.size W w')) := fun b b' c c' W h1 h2 => eqInts b b' c c' V W h1 h2 (by omega)
  obtain ⟨E, hE⟩ : ∃ E, dutF (List.replicate ms.length 3) N = E := ⟨_, rfl⟩
  have hEl : E.length = N := by rw [← hE, dutF_len]
  have HEN := Lib.hid hEl
  have HEG : Hid (∀ d, d < N → E.getD d 0 = ((d % ms.length : Nat) : Int)) := fun d hd => by
    rw [← hE, dutF_get hd, (eq_avg (by decide) l1 d).2]
  have q0 : ((E.length : Int) == (N : Int)) = true := by rw [hEl]; exact beq_self_eq_true _
  have q1 : (E.length == N) = true := by rw [hEl]; exact beq_self_eq_true _
  have hE500 : E.length ≤ 500 := by omega
  have ms0 : ¬ (ms.length : Int) = 0 := by omega
  have ms1 : ¬ ms.length = 0 := by omega
  have HD : Hid (∀ (b : Option Addr) (c : Nat) (W : World), (h2 : IsInts W b (List.replicate ms.length 3)) → Calls Try.prog 15 #[.int .i64 (N : Int), .slice b ms.length c] W (OutI W E)) := fun b c W h2 => by have h := iDuty (N : Int) b c (List.replicate ms.length 3) W h2 (by rw [List.length_replicate]; exact m1); rw [duV_yes (eq_cs (by omega) n1 (by decide) (by decide) l1 ml), show ((N : Int)).toNat = N from by omega, hE, List.length_replicate] at h; exact h
  have HST : Hid (∀  (W : World), Calls Try.prog 20 #[.int .i64 3, .int .i64 (ms.length : Int)] W (OutI W (List.replicate ms.length 3))) := fun  W  => lsteady 3 ms.length W m1
  clear hV hVN hcs hv hz hE hEl
  go_wp2_with fail
  refine (HI.out _ IM).mono ?_
  rintro e u2_ ⟨vo, rfl, Oo, C_⟩
  obtain ⟨bo, co, rfl, Io⟩ := Oo.ints
  have hco := own_capI Oo
  clear Oo
  replace B := bel_tr B C_
  replace IM := ints_below IM C_
  clear C_
  go_wp2_with fail
  refine (HS.out _ IM).mono ?_
  rintro e u3_ ⟨vp, rfl, Op, C_⟩
  obtain ⟨bp, cp, rfl, Ip⟩ := Op.ints
  clear Op
  replace B := bel_tr B C_
  replace IM := ints_below IM C_
  replace Io := ints_below Io C_
  clear C_
  go_wp2_with fail
  refine (HQ.out _ _ _ _ _ Io Ip).mono ?_
  rintro e u4_ ⟨rfl, C_⟩
  replace B := bel_tr B C_
  replace IM := ints_below IM C_
  replace Io := ints_below Io C_
  replace Ip := ints_below Ip C_
  clear C_
  go_wp2_with fail
  clear Ip
  clear HI HS HQ
  refine (HST.out _).mono ?_
  rintro e u8_ ⟨v8, rfl, O8, C_⟩
  obtain ⟨b8, c8, rfl, I8⟩ := O8.ints
  clear O8
  replace B := bel_tr B C_
  clear C_ IM Io
  rw [List.length_replicate]
  go_wp2_with fail
  refine (HD.out _ _ _ I8).mono ?_
  rintro e u6_ ⟨v9, rfl, O9, C_⟩
  obtain ⟨b9, c9, rfl, I9⟩ := O9.ints
  clear O9
  replace B := bel_tr B C_
  replace I8 := ints_below I8 C_
  clear C_
  go_wp2_with fail
  have HI9 := Lib.hid I9
  have HB0 := Lib.hid B
  clear B I8 I9
  go_loopw [7] (fun i wr => ∃ d : Nat, d ≤ E.length ∧ i = .int .i64 d ∧ Below u6_.heap.size u6_ wr) (fun i _ => E.length - (intOf i).toNat)
  case atStart => exact ⟨0, Nat.zero_le _, rfl, Below.refl _ _⟩
  case round =>
    obtain ⟨d, hd, rfl, hB⟩ := hrel
    by_cases hdl : d < E.length
    · have a9 := ints_below HI9.out hB
      have he := HEG.out d (by have := HEN.out; omega)
      rcases a9 with hnil | ⟨g9, o9, rfl, h9⟩
      · rw [hnil] at hdl; exact absurd hdl (Nat.not_lt_zero _)
      have x9 := h9 d hdl
      rw [he] at x9
      have i0 : (0 : Int) ≤ (d : Int) := by omega
      have i1 : (d : Int) < (E.length : Int) := by omega
      have tm : (d : Int).tmod (ms.length : Int) = ((d % ms.length : Nat) : Int) := by rw [Int.tmod_eq_emod_of_nonneg i0]; rfl
      have hlt := Nat.mod_lt d l1
      have wz : IntKind.i64.wrap ((d % ms.length : Nat) : Int) = ((d % ms.length : Nat) : Int) := by rw [IntKind.wrap_i64]; omega
      generalize d % ms.length = r at x9 tm wz
      clear h9 he hlt
      go_wp2_with fail
      go_quiet (fail)
      go_wp2
      go_roundw
      case rel => exact ⟨d + 1, by omega, by go_num, below_drewN hB _⟩
      case measure => simp [intOf]; omega
    · have B := bel_tr HB0.out hB
      clear hB
      go_wp2_with fail
      go_ret
      exact ⟨rfl, B⟩

set_option maxRecDepth 100000 in
theorem lifted (os : Os) (started : os.Started) (H : Type) (enc : TypeId × Value → H) :
    ReturnsInHanded {} Try.checked os 4 .any (Rows.fnDutyOrderTurnsSpec.pre6 enc Try.prog Try.f4 Rows.fnDutyOrderTurnsRow.domain false) (Rows.fnDutyOrderTurnsSpec.post enc Try.prog Try.f4 false true false false) := by
  refine returnsInHanded_of_change (C := Try.checked) own started (by kernel_rfl) Try.func4
    (ChangeSpec.witness6 (enc := enc) (C := Try.checked) false ⟨#[], #[.slice none 0 0], []⟩ 8 (by kernel_rfl) (by kernel_rfl) (by kernel_rfl) (by kernel_rfl)) ?_
  intro W base args ds gs before hval0 hW hcnd _
  have hval : ∀ (j : Nat) t v, Try.f4.params[j]? = some t → args[j]? = some v → Value.okWide Try.prog W .any base t v := hval0
  have hW' := hW
  obtain ⟨p, q, hA0, hV, rfl, hfz, hnd⟩ := hW
  have hA : DataW.TrodAll enc Try.prog W 0 (fun _ => true) true Try.f4.params.toList args.toList ds p := hA0
  rw [Try.params4] at hA hval
  obtain ⟨v0, vs0, e0, es0, p0, q0, hargs, rfl, rfl, h0, r0⟩ := trodAll_cons hA
  obtain ⟨rfl, rfl, rfl⟩ := trodAll_nil r0
  obtain rfl : args = #[v0] := by cases args; simp_all
  obtain ⟨rfl, rfl⟩ := trodVars_none hV
  have k0 := h0
  have lt0 : ∀ x ∈ p0, x.block < W.heap.size := by obtain ⟨m, hm⟩ := k0; exact DataW.trod_lt m _ _ _ hm
  obtain ⟨a0, len0, cap0, rfl⟩ := okWide_slice Try.underlying22 (hval 0 22 v0 rfl rfl)
  obtain ⟨z0, w0⟩ : ∃ zs, IsRow .u8 W a0 len0 cap0 zs := by
    obtain ⟨fuel, hf⟩ := h0
    rcases open_ints Try.underlying22 Try.underlying5 (by kernel_rfl) hf with ⟨hcs, _⟩ | ⟨x, l, c, zs, hcs, _, hl, hm, hz, _, hcell, hwz⟩
    · simp [Value.cells] at hcs
      obtain ⟨rfl, rfl, rfl⟩ := hcs
      exact ⟨[], .inl ⟨rfl, rfl, rfl, rfl⟩⟩
    · simp [Value.cells] at hcs
      obtain ⟨rfl, rfl, rfl⟩ := hcs
      exact ⟨zs, .inr ⟨_, rfl, hl, hm, by simpa using hz, hcell, hwz⟩⟩
  clear hA0 hval0
  refine (walk a0 len0 cap0 z0 W w0).mono fun e W' ⟨he, bel⟩ => ?_
  subst he
  exact ⟨_, rfl, _, _, _, [], _, [], hW', trodAll_mk1 (shut_bool Try.underlying4 _), (trodAll_cons_mk (Below.trod laidOut (by kernel_rfl) (of_decide_eq_true (by kernel_rfl)) k0 bel lt0) trodAll_mk0), rfl, bel.frame _, fun h => by cases h⟩

theorem over : Rows.fnDutyOrderTurnsRow.holds Try.pinned (OpenSpec.ofChange Rows.fnDutyOrderTurnsSpec) :=
  OpenClaim.holds_of_wide 4 Try.f4 rfl rfl rfl rfl rfl rfl rfl ⟨rfl, rfl, rfl, rfl, rfl⟩ rfl rfl rfl rfl rfl (by kernel_rfl) Try.func4 (by kernel_rfl)
    (of_decide_eq_true (by kernel_rfl)) (by unfold Func.isWrapper; first | (rw [if_pos (by decide +kernel)]; kernel_rfl) | (rw [if_neg (by decide +kernel)]; exact ⟨rfl, rfl⟩))
    (fun os started H enc _ => lifted os started H enc)

end Go.Proofs.Ytigapnbpgbfbhab.fnDutyOrderTurns
namespace Go.Proofs.Ytigapnbpgbfbhab
/-- the statement -/
theorem fnDutyOrderTurns_holds : Rows.FnDutyOrderTurnsSaid := fnDutyOrderTurns.over
end Go.Proofs.Ytigapnbpgbfbhab
