/- For every input the law answers true, and its argument reads afterwards as before: plots can lie fallow. No condition. -/
import Derived.Test.YtigapnbpgbfbhacRows
import Derived.Test.YtigapnbpgbfbhacDrawPl
import Derived.Test.YtigapnbpgbfbhacPloT
import Derived.Test.YtigapnbpgbfbhacPloQ
import Derived.Test.YtigapnbpgbfbhacLawIn
import Derived.Test.YtigapnbpgbfbhacCutPl
import Derived.WalkKit
import Derived.Deep.RegionHeld3
import Derived.Deep.RegionWith
import Derived.Deep.QuietTactic
import Derived.BigQuiet
import Derived.RegionTactic
import Derived.ChangeAlike
import Derived.BigRegion
import Derived.ProofKit
import Derived.OpenShut
import Derived.ShutString
import Derived.ChangeOld
import Derived.Below
import Derived.Lib.SmallJoins
namespace Go.Proofs.Ytigapnbpgbfbhac.fnValidPlots
open Go.ChangeShapes Go.WideShapes Go.ChangeAt Go.RowKit Go.Joins
open Go.ChangeMaps (open_string shut_string)
set_option linter.unusedVariables false
set_option linter.unusedSimpArgs false

theorem own : ownKnob Try.prog.godebug = none := by kernel_rfl
theorem laidOut : laidOutB Try.prog = true := by kernel_rfl

set_option maxRecDepth 100000 in
set_option maxHeartbeats 8000000 in
theorem walk (a0 : Option Addr) (len0 cap0 : Nat) (z0 : List Int) (w : World) (w0 : IsRow .u8 w a0 len0 cap0 z0) :
    Calls Try.prog 7 #[.slice a0 len0 cap0] w fun e w' => e = .returned (.bool true) ∧ Below w.heap.size w w' := by
  by_cases big : (1048576 : Int) < (len0 : Int)
  · go_enter Try.func7, Try.ntmps7
    go_wp2
    go_ret
    exact ⟨rfl, Below.refl _ _⟩
  go_enter Try.func7, Try.ntmps7
  go_wp2_with fail
  refine (drawVPl a0 len0 cap0 z0 _ w0).mono ?_
  rintro e u1 ⟨b1, cp, xs, rfl, l6, hlc, IR, B⟩
  clear w0 big
  have n1 : xs.length ≤ 1048576 := by omega
  cases hv : vpB xs with
  | false =>
    have HI : Hid (∀  (W : World), (h1 : IsPl W b1 xs) → Calls Try.prog 15 #[.slice b1 xs.length cp] W (fun e w' => e = .returned (.bool false) ∧ Below W.heap.size W w')) := fun  W h1 => by have h := iVP b1 cp xs W h1 n1; rw [hv] at h; exact h
    have HS : Hid (∀  (W : World), (h1 : IsPl W b1 xs) → Calls Try.prog 13 #[.slice b1 xs.length cp] W (fun e w' => e = .returned (.bool false) ∧ Below W.heap.size W w')) := fun  W h1 => by have h := sVP b1 cp xs W h1 n1; rw [hv] at h; exact h
    clear hv
    go_wp2_with fail
    refine (HI.out _ IR).mono ?_
    rintro e u2_ ⟨rfl, C_⟩
    replace B := bel_tr B C_
    replace IR := pl_below IR C_
    clear C_
    go_wp2_with fail
    refine (HS.out _ IR).mono ?_
    rintro e u3_ ⟨rfl, C_⟩
    replace B := bel_tr B C_
    replace IR := pl_below IR C_
    clear C_
    go_wp2_with fail
    refine (HS.out _ IR).mono ?_
    rintro e u4_ ⟨rfl, C_⟩
    replace B := bel_tr B C_
    replace IR := pl_below IR C_
    clear C_
    go_wp2_with fail
    go_ret
    exact ⟨rfl, B⟩
  | true =>
  have HI : Hid (∀  (W : World), (h1 : IsPl W b1 xs) → Calls Try.prog 15 #[.slice b1 xs.length cp] W (fun e w' => e = .returned (.bool true) ∧ Below W.heap.size W w')) := fun  W h1 => by have h := iVP b1 cp xs W h1 n1; rw [hv] at h; exact h
  have HS : Hid (∀  (W : World), (h1 : IsPl W b1 xs) → Calls Try.prog 13 #[.slice b1 xs.length cp] W (fun e w' => e = .returned (.bool true) ∧ Below W.heap.size W w')) := fun  W h1 => by have h := sVP b1 cp xs W h1 n1; rw [hv] at h; exact h
  have HWO : Hid (∀ k, k < xs.length → vpB (xs.take k ++ xs.drop (k + 1)) = true ∧ byV (xs.take k ++ xs.drop (k + 1)) 30 ≤ byV xs 30) := fun k hk => by
    have h1 : vpB (rmv xs k) = true := rmv_vp hv hk
    refine ⟨h1, ?_⟩
    have e1 : byV (rmv xs k) 30 = yT (rmv xs k) (rmv xs k).length 30 := byV_yes (w := 30) (wp_yes h1 (by omega) (by omega))
    have e2 : byV xs 30 = yT xs xs.length 30 := byV_yes (w := 30) (wp_yes hv (by omega) (by omega))
    show byV (rmv xs k) 30 ≤ _
    rw [e1, e2]; exact rmv_yield hk 30
  have HBX : Hid (∀  (W : World), (h1 : IsPl W b1 xs) → Calls Try.prog 18 #[.slice b1 xs.length cp, .int .i64 30] W (fun e w' => e = .returned (.int .i64 (byV xs 30)) ∧ Below W.heap.size W w')) := fun  W h1 => iBY b1 cp xs 30 W h1 n1
  generalize byV xs 30 = YX at HWO HBX
  clear hv
  obtain ⟨i0, hi, hz0, hz1, hz2⟩ := info_parts infoPl
  go_wp2_with fail
  refine (HI.out _ IR).mono ?_
  rintro e u2_ ⟨rfl, C_⟩
  replace B := bel_tr B C_
  replace IR := pl_below IR C_
  clear C_
  go_wp2_with fail
  refine (HS.out _ IR).mono ?_
  rintro e u3_ ⟨rfl, C_⟩
  replace B := bel_tr B C_
  replace IR := pl_below IR C_
  clear C_
  go_wp2_with fail
  clear HI HS
  have HIR := Lib.hid IR
  have HB0 := Lib.hid B
  clear B IR
  go_loopw [5] (fun i wr => ∃ k : Nat, k ≤ xs.length ∧ i = .int .i64 k ∧ Below u3_.heap.size u3_ wr) (fun i _ => xs.length - (intOf i).toNat)
  case atStart => exact ⟨0, Nat.zero_le _, rfl, Below.refl _ _⟩
  case round =>
    obtain ⟨k, hk, rfl, hB⟩ := hrel
    by_cases hlt : k < xs.length
    · have IR2 := pl_below HIR.out hB
      rcases IR2 with hnil | ⟨g, oo, rfl, hc⟩
      · rw [hnil] at hlt; exact absurd hlt (Nat.not_lt_zero _)
      have HRU := Lib.hid (show IsPl wr (some ⟨g, oo, none⟩) xs from .inr ⟨g, oo, rfl, hc⟩)
      have HV := Lib.hid (HWO.out k hlt)
      have HB := Lib.hid hB
      clear hc hB
      have k0 : (0 : Int) ≤ (k : Int) := by omega
      have kx : (k : Int) < (xs.length : Int) := by omega
      have k1 : (k : Int) ≤ (xs.length : Int) := by omega
      have k2 : (k : Int) + 1 ≤ (xs.length : Int) := by omega
      have k3 : (0 : Int) ≤ (k : Int) + 1 := by omega
      have t1 : ((k : Int) + 1).toNat = k + 1 := by omega
      have kc : (k : Int) ≤ (cp : Int) := by omega
      have wk : IntKind.i64.wrap ((k : Int) + 1) = (k : Int) + 1 := by rw [IntKind.wrap_i64]; omega
      go_wp2_with fail
      refine wp_region_held_drew (S := (fun w' => True ∧ Below wr.heap.size wr w')) (by kernel_rfl) ?_ (fun hHeld => ?_)
      · exact ⟨trivial, (Below.refl _ _).drew⟩
      refine wpAnyH_take (i := 1) (oi := ?ooa1) (v := ?vva1) ?hia1 (by kernel_rfl) ?h3a1 ?h4a1 ?h5a1 ?h6a1 (by assumption) ?h8a1
      case hia1 => (simp only [List.getElem?_toArray, List.getElem?_cons_succ, List.getElem?_cons_zero]; rfl)
      case h3a1 => kernel_rfl
      case h4a1 => kernel_rfl
      case h6a1 => (refine Or.inl ⟨by rfl, ?_⟩; intro w hSw; (try dsimp only at hSw); (go_simp <;> with_reducible rfl))
      case h5a1 => exact fun _ _ _ h => h
      try simp only [Act.put, List.setIfInBounds_toArray, List.set_cons_zero, List.set_cons_succ]
      refine wpAnyH_take (i := 2) (oi := ?ooa2) (v := ?vva2) ?hia2 (by kernel_rfl) ?h3a2 ?h4a2 ?h5a2 ?h6a2 (by assumption) ?h8a2
      case hia2 => (simp only [List.getElem?_toArray, List.getElem?_cons_succ, List.getElem?_cons_zero]; rfl)
      case h3a2 => kernel_rfl
      case h4a2 => kernel_rfl
      case h6a2 => (refine Or.inl ⟨by rfl, ?_⟩; intro w hSw; (try dsimp only at hSw); (go_simp <;> with_reducible rfl))
      case h5a2 => exact fun _ _ _ h => h
      try simp only [Act.put, List.setIfInBounds_toArray, List.set_cons_zero, List.set_cons_succ]
      refine wpAnyH_take (i := 3) (oi := ?ooa3) (v := ?vva3) ?hia3 (by kernel_rfl) ?h3a3 ?h4a3 ?h5a3 ?h6a3 (by assumption) ?h8a3
      case hia3 => (simp only [List.getElem?_toArray, List.getElem?_cons_succ, List.getElem?_cons_zero]; rfl)
      case h3a3 => kernel_rfl
      case h4a3 => kernel_rfl
      case h6a3 => (refine Or.inl ⟨by rfl, ?_⟩; intro w hSw; (try dsimp only at hSw); (go_simp <;> with_reducible rfl))
      case h5a3 => exact fun _ _ _ h => h
      try simp only [Act.put, List.setIfInBounds_toArray, List.set_cons_zero, List.set_cons_succ]
      refine wpAnyH_take (i := 5) (oi := ?ooa5) (v := ?vva5) ?hia5 (by kernel_rfl) ?h3a5 ?h4a5 ?h5a5 ?h6a5 (by assumption) ?h8a5
      case hia5 => (simp only [List.getElem?_toArray, List.getElem?_cons_succ, List.getElem?_cons_zero]; rfl)
      case h3a5 => kernel_rfl
      case h4a5 => kernel_rfl
      case h6a5 => (refine Or.inl ⟨by rfl, ?_⟩; intro w hSw; (try dsimp only at hSw); (go_simp <;> with_reducible rfl))
      case h5a5 => exact fun _ _ _ h => h
      try simp only [Act.put, List.setIfInBounds_toArray, List.set_cons_zero, List.set_cons_succ]
      refine wpAnyH_take (i := 6) (oi := ?ooa6) (v := ?vva6) ?hia6 (by kernel_rfl) ?h3a6 ?h4a6 ?h5a6 ?h6a6 (by assumption) ?h8a6
      case hia6 => (simp only [List.getElem?_toArray, List.getElem?_cons_succ, List.getElem?_cons_zero]; rfl)
      case h3a6 => kernel_rfl
      case h4a6 => kernel_rfl
      case h6a6 => (refine Or.inl ⟨by rfl, ?_⟩; intro w hSw; (try dsimp only at hSw); (go_simp <;> with_reducible rfl))
      case h5a6 => exact fun _ _ _ h => h
      try simp only [Act.put, List.setIfInBounds_toArray, List.set_cons_zero, List.set_cons_succ]
      refine wpAnyH_take (i := 7) (oi := ?ooa7) (v := ?vva7) ?hia7 (by kernel_rfl) ?h3a7 ?h4a7 ?h5a7 ?h6a7 (by assumption) ?h8a7
      case hia7 => (simp only [List.getElem?_toArray, List.getElem?_cons_succ, List.getElem?_cons_zero]; rfl)
      case h3a7 => kernel_rfl
      case h4a7 => kernel_rfl
      case h6a7 => (refine Or.inl ⟨by rfl, ?_⟩; intro w hSw; (try dsimp only at hSw); (go_simp <;> with_reducible rfl))
      case h5a7 => exact fun _ _ _ h => h
      try simp only [Act.put, List.setIfInBounds_toArray, List.set_cons_zero, List.set_cons_succ]
      refine wpAnyH_take (i := 8) (oi := ?ooa8) (v := ?vva8) ?hia8 (by kernel_rfl) ?h3a8 ?h4a8 ?h5a8 ?h6a8 (by assumption) ?h8a8
      case hia8 => (simp only [List.getElem?_toArray, List.getElem?_cons_succ, List.getElem?_cons_zero]; rfl)
      case h3a8 => kernel_rfl
      case h4a8 => kernel_rfl
      case h6a8 => (refine Or.inl ⟨by rfl, ?_⟩; intro w hSw; (try dsimp only at hSw); (go_simp <;> with_reducible rfl))
      case h5a8 => exact fun _ _ _ h => h
      try simp only [Act.put, List.setIfInBounds_toArray, List.set_cons_zero, List.set_cons_succ]
      refine wpAnyH_ready (rs := [0]) (by kernel_rfl) (by simp) (AllReadyH.cons (o := ?ooa0) ?hia0 (fun K hK => ?hka0) AllReadyH.nil)
      rotate_left
      case hia0 => (simp only [List.getElem?_toArray, List.getElem?_cons_succ, List.getElem?_cons_zero]; rfl)
      (rw [if_pos (by rfl)]; go_simp; have O1 := Lib.hid (own_emptyPl wr.drew); have T1 := Lib.hid (pl_below HRU.out (hHeld.2.alloc hHeld.2.size (.cells #[] 45))); have E1 := Lib.hid (hHeld.2.alloc hHeld.2.size (.cells #[] 45)); refine hK.out _ _ (⟨trivial, E1.out⟩) (fun hHeld => ?_); clear hK K)
      try simp only [Act.put, List.setIfInBounds_toArray, List.set_cons_zero, List.set_cons_succ]
      refine wpAnyH_ready (rs := [4]) (by kernel_rfl) (by simp) (AllReadyH.cons (o := ?ooa4) ?hia4 (fun K hK => ?hka4) AllReadyH.nil)
      rotate_left
      case hia4 => (simp only [List.getElem?_toArray, List.getElem?_cons_succ, List.getElem?_cons_zero]; rfl)
      (rw [if_pos (by rfl)]; refine wp_append_any _ (.tmp 32) (.tmp 35) _ rfl wr.heap.size 45 i0 _ 2 16 Try.underlying25 hi hz0 hz1 hz2 rfl (by decide) _ 0 [] rfl O1.out _ (some ⟨g, oo, none⟩) k cp (valsPl (xs.take k)) rfl (take_readsPl T1.out (by omega)) (valsPl_one _) (by unfold maxLen; omega) (by omega) E1.out.size ?_; intro v1 W2 own1 gr1 ob1; have E2 := Lib.hid (E1.out.grown gr1 E1.out.size (fun q hq => (O1.out.lt q hq).1)); have T2 := Lib.hid (pl_below HRU.out E2.out); have O2 := Lib.hid own1; clear gr1 ob1 own1 O1 T1; refine hK.out _ _ (⟨trivial, E2.out⟩) (fun hHeld => ?_); clear hK K)
      try simp only [Act.put, List.setIfInBounds_toArray, List.set_cons_zero, List.set_cons_succ]
      refine wpAnyH_ready (rs := [9]) (by kernel_rfl) (by simp) (AllReadyH.cons (o := ?ooa9) ?hia9 (fun K hK => ?hka9) AllReadyH.nil)
      rotate_left
      case hia9 => (simp only [List.getElem?_toArray, List.getElem?_cons_succ, List.getElem?_cons_zero]; rfl)
      (rw [if_pos (by rfl)]; refine wp_append_any _ (.tmp 36) (.tmp 40) _ rfl wr.heap.size 45 i0 _ 2 16 Try.underlying25 hi hz0 hz1 hz2 rfl (by decide) _ _ _ rfl O2.out _ _ (xs.length - (k + 1)) (cp - (k + 1)) (valsPl (xs.drop (k + 1))) rfl (drop_readsPl T2.out (by omega) hlc) (valsPl_one _) (by unfold maxLen; omega) (by omega) E2.out.size ?_; intro v2 W3 own2 gr2 ob2; have E3 := Lib.hid (E2.out.grown gr2 E2.out.size (fun q hq => (O2.out.lt q hq).1)); have hcap2 := own_capPl own2; obtain ⟨b2, cap2, rfl, T3⟩ := own_bothPl own2 hlt; have hcap3 := Lib.hid (hcap2 _ _ _ rfl); clear hcap2; have HL : Hid ((xs.take k ++ xs.drop (k + 1)).length ≤ 1048576) := (show _ ≤ _ by rw [List.length_append, List.length_take, List.length_drop]; omega); generalize xs.take k ++ xs.drop (k + 1) = L at T3 HV HL hcap3 ⊢; have T3 := Lib.hid T3; generalize (if cp = k + 1 then (some ⟨g, oo, none⟩ : Option Addr) else some ⟨g, oo + (k + 1) * 2, none⟩) = A44; clear gr2 ob2 own2 O2 T2; refine hK.out _ _ (⟨trivial, E3.out⟩) (fun hHeld => ?_); clear hK K)
      try simp only [Act.put, List.setIfInBounds_toArray, List.set_cons_zero, List.set_cons_succ]
      refine wpAnyH_take (i := 10) (oi := ?ooa10) (v := ?vva10) ?hia10 (by kernel_rfl) ?h3a10 ?h4a10 ?h5a10 ?h6a10 (by assumption) ?h8a10
      case hia10 => (simp only [List.getElem?_toArray, List.getElem?_cons_succ, List.getElem?_cons_zero]; rfl)
      case h3a10 => kernel_rfl
      case h4a10 => kernel_rfl
      case h6a10 => (refine Or.inl ⟨by rfl, ?_⟩; intro w hSw; (try dsimp only at hSw); (go_simp <;> with_reducible rfl))
      case h5a10 => exact fun _ _ _ h => h
      try simp only [Act.put, List.setIfInBounds_toArray, List.set_cons_zero, List.set_cons_succ]
      refine wpAnyH_done (by kernel_rfl) ?_ _
      have y3 := HV.out.2
      have CV := iVP b2 cap2 L W3 T3.out HL.out
      rw [HV.out.1] at CV
      have CY := Lib.hid (fun W hW => iBY b2 cap2 L 30 W (pl_below T3.out hW) HL.out)
      generalize byV L 30 = YL at CY y3
      have dz : decide (YX < YL) = false := decide_eq_false (by omega)
      clear y3 hHeld
      go_wp2_with fail
      refine CV.mono ?_
      rintro e W4 ⟨rfl, C4⟩
      go_wp2_with fail
      refine (CY.out _ C4).mono ?_
      rintro e W5 ⟨rfl, C5⟩
      have E5 := bel_tr E3.out (bel_tr C4 C5)
      go_wp2_with fail
      refine (HBX.out _ (pl_below HRU.out E5)).mono ?_
      rintro e W6 ⟨rfl, C6⟩
      have B2 := Lib.hid (bel_tr HB.out (bel_tr E5 C6))
      clear C4 C5 C6 E5
      go_wp2_with fail
      go_roundw
      case rel => exact ⟨k + 1, by omega, by go_num, B2.out⟩
      case measure => simp [intOf]; omega
    · have HB2 := Lib.hid (bel_tr HB0.out hB)
      clear hB
      go_wp2_with fail
      go_ret
      exact ⟨rfl, HB2.out⟩

set_option maxRecDepth 100000 in
theorem lifted (os : Os) (started : os.Started) (H : Type) (enc : TypeId × Value → H) :
    ReturnsInHanded {} Try.checked os 7 .any (Rows.fnValidPlotsSpec.pre6 enc Try.prog Try.f7 Rows.fnValidPlotsRow.domain false) (Rows.fnValidPlotsSpec.post enc Try.prog Try.f7 false true false false) := by
  refine returnsInHanded_of_change (C := Try.checked) own started (by kernel_rfl) Try.func7
    (ChangeSpec.witness6 (enc := enc) (C := Try.checked) false ⟨#[], #[.slice none 0 0], []⟩ 8 (by kernel_rfl) (by kernel_rfl) (by kernel_rfl) (by kernel_rfl)) ?_
  intro W base args ds gs before hval0 hW hcnd _
  have hval : ∀ (j : Nat) t v, Try.f7.params[j]? = some t → args[j]? = some v → Value.okWide Try.prog W .any base t v := hval0
  have hW' := hW
  obtain ⟨p, q, hA0, hV, rfl, hfz, hnd⟩ := hW
  have hA : DataW.TrodAll enc Try.prog W 0 (fun _ => true) true Try.f7.params.toList args.toList ds p := hA0
  rw [Try.params7] at hA hval
  obtain ⟨v0, vs0, e0, es0, p0, q0, hargs, rfl, rfl, h0, r0⟩ := trodAll_cons hA
  obtain ⟨rfl, rfl, rfl⟩ := trodAll_nil r0
  obtain rfl : args = #[v0] := by cases args; simp_all
  obtain ⟨rfl, rfl⟩ := trodVars_none hV
  have k0 := h0
  have lt0 : ∀ x ∈ p0, x.block < W.heap.size := by obtain ⟨m, hm⟩ := k0; exact DataW.trod_lt m _ _ _ hm
  obtain ⟨a0, len0, cap0, rfl⟩ := okWide_slice Try.underlying39 (hval 0 39 v0 rfl rfl)
  obtain ⟨z0, w0⟩ : ∃ zs, IsRow .u8 W a0 len0 cap0 zs := by
    obtain ⟨fuel, hf⟩ := h0
    rcases open_ints Try.underlying39 Try.underlying5 (by kernel_rfl) hf with ⟨hcs, _⟩ | ⟨x, l, c, zs, hcs, _, hl, hm, hz, _, hcell, hwz⟩
    · simp [Value.cells] at hcs
      obtain ⟨rfl, rfl, rfl⟩ := hcs
      exact ⟨[], .inl ⟨rfl, rfl, rfl, rfl⟩⟩
    · simp [Value.cells] at hcs
      obtain ⟨rfl, rfl, rfl⟩ := hcs
      exact ⟨zs, .inr ⟨_, rfl, hl, hm, by simpa using hz, hcell, hwz⟩⟩
  clear hA0 hval0
  refine (walk a0 len0 cap0 z0 W w0).mono fun e W' ⟨he, bel⟩ => ?_
  subst he
  exact ⟨_, rfl, _, _, _, [], _, [], hW', trodAll_mk1 (shut_bool Try.underlying4 _), (trodAll_cons_mk (Below.trod laidOut (by kernel_rfl) (of_decide_eq_true (by kernel_rfl)) k0 bel lt0) trodAll_mk0), rfl, bel.frame _, fun h => by cases h⟩

theorem over : Rows.fnValidPlotsRow.holds Try.pinned (OpenSpec.ofChange Rows.fnValidPlotsSpec) :=
  OpenClaim.holds_of_wide 7 Try.f7 rfl rfl rfl rfl rfl rfl rfl ⟨rfl, rfl, rfl, rfl, rfl⟩ rfl rfl rfl rfl rfl (by kernel_rfl) Try.func7 (by kernel_rfl)
    (of_decide_eq_true (by kernel_rfl)) (by unfold Func.isWrapper; first | (rw [if_pos (by decide +kernel)]; kernel_rfl) | (rw [if_neg (by decide +kernel)]; exact ⟨rfl, rfl⟩))
    (fun os started H enc _ => lifted os started H enc)

end Go.Proofs.Ytigapnbpgbfbhac.fnValidPlots
namespace Go.Proofs.Ytigapnbpgbfbhac
/-- the statement -/
theorem fnValidPlots_holds : Rows.FnValidPlotsSaid := fnValidPlots.over
end Go.Proofs.Ytigapnbpgbfbhac
