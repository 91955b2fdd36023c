/- For every input the law answers true, and its argument reads afterwards as before: leases can end early. No condition. -/
import Derived.Test.YtaehemmjemhgpaaRows
import Derived.Test.YtaehemmjemhgpaaPBG6
import Derived.Test.YtaehemmjemhgpaaPBG5
import Derived.Test.YtaehemmjemhgpaaPBSumF
import Derived.Test.YtaehemmjemhgpaaPBG4
import Derived.WalkKit
import Derived.ProofKit
import Derived.OpenShut
import Derived.ShutString
import Derived.ChangeOld
import Derived.Below
import Derived.Lib.SmallJoins
set_option maxRecDepth 100000
set_option maxHeartbeats 16000000
namespace Go.Proofs.Ytaehemmjemhgpaa.fnValidLeases
open Go.ChangeShapes Go.WideShapes Go.ChangeAt Go.RowKit Go.Joins
open Go.ChangeMaps (open_string shut_string)
set_option linter.unusedVariables false
set_option linter.unusedSimpArgs false

theorem own : ownKnob Try.prog.godebug = none := by kernel_rfl
theorem laidOut : laidOutB Try.prog = true := by kernel_rfl

theorem walk (a0 : Option Addr) (len0 cap0 : Nat) (z0 : List Int) (w : World) (w0 : IsRow .u8 w a0 len0 cap0 z0) :
    Calls Try.prog 4 #[.slice a0 len0 cap0] w fun e w' => e = .returned (.bool true) ∧ Below w.heap.size w w' := by
  obtain ⟨i0, hi, hz0, hz1, hz2⟩ := info_parts infoLs
  by_cases big : (1048576 : Int) < (len0 : Int)
  · go_enter Try.func4, Try.ntmps4
    go_wp2
    go_ret
    exact ⟨rfl, Below.refl _ _⟩
  go_enter Try.func4, Try.ntmps4
  go_wp2_with fail
  refine (drawLz a0 len0 cap0 z0 _ w0).mono ?_
  rintro e u1 ⟨b, A, cp, cz, hs0, ls, rfl, hl6, hlc, hl3, hI, hZ, hdc, B⟩
  clear w0 big
  have n1 : hs0.length ≤ 1048576 := by omega
  have HI := Lib.hid hI
  have HZ := Lib.hid hZ
  have D := Below.refl u1.heap.size u1
  clear hI hZ hlc
  have CI : ∀ W, Below u1.heap.size u1 W → Calls Try.prog 18 #[.slice b hs0.length cp, .slice A ls.length cz] W fun e w' => e = .returned (.bool (lzB hs0 ls)) ∧ Below W.heap.size W w' := fun W hW => iLeases b cp hs0 A cz ls W (hs_below HI.out hW) n1 (ls_below HZ.out hW) (by omega)
  have CS : ∀ W, Below u1.heap.size u1 W → Calls Try.prog 19 #[.slice b hs0.length cp, .slice A ls.length cz] W fun e w' => e = .returned (.bool (lzB hs0 ls)) ∧ Below W.heap.size W w' := fun W hW => sLeases b A cp cz hs0 ls W (hs_below HI.out hW) n1 (ls_below HZ.out hW) (by omega)
  cases hv : lzB hs0 ls with
  | false =>
    rw [hv] at CI CS
    clear hv
    go_wp2_with fail
    refine (CI _ D).mono ?_
    rintro e u2 ⟨rfl, C⟩
    replace B := bel_tr B C
    replace D := bel_tr D C
    clear C
    go_wp2_with fail
    refine (CS _ D).mono ?_
    rintro e u3 ⟨rfl, C⟩
    replace B := bel_tr B C
    replace D := bel_tr D C
    clear C
    go_wp2_with fail
    refine (CS _ D).mono ?_
    rintro e u4 ⟨rfl, C⟩
    replace B := bel_tr B C
    replace D := bel_tr D C
    clear C
    go_wp2_with fail
    go_ret
    exact ⟨rfl, B⟩
  | true =>
    rw [hv] at CI CS
    have HW : Hid (∀ k, k < ls.length → sumsB (ls.take k ++ ls.drop (k + 1)) = true → lzB hs0 (ls.take k ++ ls.drop (k + 1)) = true) := fun k hk h => lz_wo hv hk h
    have HT : Hid (∀ k, k < ls.length → termsB (ls.take k ++ ls.drop (k + 1)) = true) := fun k hk => terms_iff.2 (fun x hx => terms_iff.1 (lzB_is hv).2.2.1 x (wo_mem hx))
    have HNIL := Lib.hid (lz_nil hv)
    clear hv
    go_wp2_with fail
    refine (CI _ D).mono ?_
    rintro e u2 ⟨rfl, C⟩
    replace B := bel_tr B C
    replace D := bel_tr D C
    clear C
    go_wp2_with fail
    refine (CS _ D).mono ?_
    rintro e u3 ⟨rfl, C⟩
    replace B := bel_tr B C
    replace D := bel_tr D C
    clear C
    go_wp2_with fail
    have HD0 := Lib.hid D
    have HB0 := Lib.hid B
    clear B D CI CS
    obtain ⟨w8, hw8⟩ : ∃ y, y = u3 := ⟨_, rfl⟩
    subst hw8
    go_loopw [6] (fun i wr => ∃ k : Nat, k ≤ ls.length ∧ i = .int .i64 k ∧ Below w8.heap.size w8 wr) (fun i _ => ls.length - (intOf i).toNat)
    case atStart => exact ⟨0, Nat.zero_le _, rfl, Below.refl _ _⟩
    case round =>
      obtain ⟨k, hk, rfl, hB⟩ := hrel
      by_cases hlt : k < ls.length
      · have IL2 := ls_below HZ.out (bel_tr HD0.out hB)
        rcases IL2 with hnil | ⟨g, oo, rfl, hc⟩
        · rw [hnil] at hlt; exact absurd hlt (Nat.not_lt_zero _)
        have HRL := Lib.hid (show IsLs wr (some ⟨g, oo, none⟩) ls from .inr ⟨g, oo, rfl, hc⟩)
        have HWO := Lib.hid (HW.out k hlt)
        have HTE := Lib.hid (HT.out k hlt)
        have HB := Lib.hid hB
        have hlc := hdc
        have HDD := Lib.hid (bel_tr HD0.out hB)
        clear hc hB
        have k0 : (0 : Int) ≤ (k : Int) := by omega
        have kx : (k : Int) < (ls.length : Int) := by omega
        have k1 : (k : Int) ≤ (ls.length : Int) := by omega
        have k2 : (k : Int) + 1 ≤ (ls.length : Int) := by omega
        have k3 : (0 : Int) ≤ (k : Int) + 1 := by omega
        have t1 : ((k : Int) + 1).toNat = k + 1 := by omega
        have kc : (k : Int) ≤ (cz : Int) := by omega
        have wk : IntKind.i64.wrap ((k : Int) + 1) = (k : Int) + 1 := by rw [IntKind.wrap_i64]; omega
        go_wp2_with fail
        refine wp_region_held_drew (S := (fun w' => True ∧ Below wr.heap.size wr w')) (by kernel_rfl) ?_ (fun hHeld => ?_)
        · exact ⟨trivial, (Below.refl _ _).drew⟩
        refine wpAnyH_take (i := 1) (oi := ?ooa1) (v := ?vva1) ?hia1 (by kernel_rfl) ?h3a1 ?h4a1 ?h5a1 ?h6a1 (by assumption) ?h8a1
        case hia1 => (simp only [List.getElem?_toArray, List.getElem?_cons_succ, List.getElem?_cons_zero]; rfl)
        case h3a1 => kernel_rfl
        case h4a1 => kernel_rfl
        case h6a1 => (refine Or.inl ⟨by rfl, ?_⟩; intro w hSw; (try dsimp only at hSw); (go_simp <;> with_reducible rfl))
        case h5a1 => exact fun _ _ _ h => h
        try simp only [Act.put, List.setIfInBounds_toArray, List.set_cons_zero, List.set_cons_succ]
        refine wpAnyH_take (i := 2) (oi := ?ooa2) (v := ?vva2) ?hia2 (by kernel_rfl) ?h3a2 ?h4a2 ?h5a2 ?h6a2 (by assumption) ?h8a2
        case hia2 => (simp only [List.getElem?_toArray, List.getElem?_cons_succ, List.getElem?_cons_zero]; rfl)
        case h3a2 => kernel_rfl
        case h4a2 => kernel_rfl
        case h6a2 => (refine Or.inl ⟨by rfl, ?_⟩; intro w hSw; (try dsimp only at hSw); (go_simp <;> with_reducible rfl))
        case h5a2 => exact fun _ _ _ h => h
        try simp only [Act.put, List.setIfInBounds_toArray, List.set_cons_zero, List.set_cons_succ]
        refine wpAnyH_take (i := 3) (oi := ?ooa3) (v := ?vva3) ?hia3 (by kernel_rfl) ?h3a3 ?h4a3 ?h5a3 ?h6a3 (by assumption) ?h8a3
        case hia3 => (simp only [List.getElem?_toArray, List.getElem?_cons_succ, List.getElem?_cons_zero]; rfl)
        case h3a3 => kernel_rfl
        case h4a3 => kernel_rfl
        case h6a3 => (refine Or.inl ⟨by rfl, ?_⟩; intro w hSw; (try dsimp only at hSw); (go_simp <;> with_reducible rfl))
        case h5a3 => exact fun _ _ _ h => h
        try simp only [Act.put, List.setIfInBounds_toArray, List.set_cons_zero, List.set_cons_succ]
        refine wpAnyH_take (i := 5) (oi := ?ooa5) (v := ?vva5) ?hia5 (by kernel_rfl) ?h3a5 ?h4a5 ?h5a5 ?h6a5 (by assumption) ?h8a5
        case hia5 => (simp only [List.getElem?_toArray, List.getElem?_cons_succ, List.getElem?_cons_zero]; rfl)
        case h3a5 => kernel_rfl
        case h4a5 => kernel_rfl
        case h6a5 => (refine Or.inl ⟨by rfl, ?_⟩; intro w hSw; (try dsimp only at hSw); (go_simp <;> with_reducible rfl))
        case h5a5 => exact fun _ _ _ h => h
        try simp only [Act.put, List.setIfInBounds_toArray, List.set_cons_zero, List.set_cons_succ]
        refine wpAnyH_take (i := 6) (oi := ?ooa6) (v := ?vva6) ?hia6 (by kernel_rfl) ?h3a6 ?h4a6 ?h5a6 ?h6a6 (by assumption) ?h8a6
        case hia6 => (simp only [List.getElem?_toArray, List.getElem?_cons_succ, List.getElem?_cons_zero]; rfl)
        case h3a6 => kernel_rfl
        case h4a6 => kernel_rfl
        case h6a6 => (refine Or.inl ⟨by rfl, ?_⟩; intro w hSw; (try dsimp only at hSw); (go_simp <;> with_reducible rfl))
        case h5a6 => exact fun _ _ _ h => h
        try simp only [Act.put, List.setIfInBounds_toArray, List.set_cons_zero, List.set_cons_succ]
        refine wpAnyH_take (i := 7) (oi := ?ooa7) (v := ?vva7) ?hia7 (by kernel_rfl) ?h3a7 ?h4a7 ?h5a7 ?h6a7 (by assumption) ?h8a7
        case hia7 => (simp only [List.getElem?_toArray, List.getElem?_cons_succ, List.getElem?_cons_zero]; rfl)
        case h3a7 => kernel_rfl
        case h4a7 => kernel_rfl
        case h6a7 => (refine Or.inl ⟨by rfl, ?_⟩; intro w hSw; (try dsimp only at hSw); (go_simp <;> with_reducible rfl))
        case h5a7 => exact fun _ _ _ h => h
        try simp only [Act.put, List.setIfInBounds_toArray, List.set_cons_zero, List.set_cons_succ]
        refine wpAnyH_take (i := 8) (oi := ?ooa8) (v := ?vva8) ?hia8 (by kernel_rfl) ?h3a8 ?h4a8 ?h5a8 ?h6a8 (by assumption) ?h8a8
        case hia8 => (simp only [List.getElem?_toArray, List.getElem?_cons_succ, List.getElem?_cons_zero]; rfl)
        case h3a8 => kernel_rfl
        case h4a8 => kernel_rfl
        case h6a8 => (refine Or.inl ⟨by rfl, ?_⟩; intro w hSw; (try dsimp only at hSw); (go_simp <;> with_reducible rfl))
        case h5a8 => exact fun _ _ _ h => h
        try simp only [Act.put, List.setIfInBounds_toArray, List.set_cons_zero, List.set_cons_succ]
        refine wpAnyH_ready (rs := [0]) (by kernel_rfl) (by simp) (AllReadyH.cons (o := ?ooa0) ?hia0 (fun K hK => ?hka0) AllReadyH.nil)
        rotate_left
        case hia0 => (simp only [List.getElem?_toArray, List.getElem?_cons_succ, List.getElem?_cons_zero]; rfl)
        (rw [if_pos (by rfl)]; go_simp; have O1 := Lib.hid (own_emptyLs wr.drew); have T1 := Lib.hid (ls_below HRL.out (hHeld.2.alloc hHeld.2.size (.cells #[] 97))); have E1 := Lib.hid (hHeld.2.alloc hHeld.2.size (.cells #[] 97)); refine hK.out _ _ (⟨trivial, E1.out⟩) (fun hHeld => ?_); clear hK K)
        try simp only [Act.put, List.setIfInBounds_toArray, List.set_cons_zero, List.set_cons_succ]
        refine wpAnyH_ready (rs := [4]) (by kernel_rfl) (by simp) (AllReadyH.cons (o := ?ooa4) ?hia4 (fun K hK => ?hka4) AllReadyH.nil)
        rotate_left
        case hia4 => (simp only [List.getElem?_toArray, List.getElem?_cons_succ, List.getElem?_cons_zero]; rfl)
        (rw [if_pos (by rfl)]; refine wp_append_any _ (.tmp 39) (.tmp 42) _ rfl wr.heap.size 97 i0 _ 6 48 Try.underlying32 hi hz0 hz1 hz2 rfl (by decide) _ 0 [] rfl O1.out _ (some ⟨g, oo, none⟩) k cz (valsLs (ls.take k)) rfl (take_readsLs T1.out (by omega)) (valsLs_one _) (by unfold maxLen; omega) (by omega) E1.out.size ?_; intro v1 W2 own1 gr1 ob1; have E2 := Lib.hid (E1.out.grown gr1 E1.out.size (fun q hq => (O1.out.lt q hq).1)); have T2 := Lib.hid (ls_below HRL.out E2.out); have O2 := Lib.hid own1; clear gr1 ob1 own1 O1 T1; refine hK.out _ _ (⟨trivial, E2.out⟩) (fun hHeld => ?_); clear hK K)
        try simp only [Act.put, List.setIfInBounds_toArray, List.set_cons_zero, List.set_cons_succ]
        refine wpAnyH_ready (rs := [9]) (by kernel_rfl) (by simp) (AllReadyH.cons (o := ?ooa9) ?hia9 (fun K hK => ?hka9) AllReadyH.nil)
        rotate_left
        case hia9 => (simp only [List.getElem?_toArray, List.getElem?_cons_succ, List.getElem?_cons_zero]; rfl)
        (rw [if_pos (by rfl)]; refine wp_append_any _ (.tmp 43) (.tmp 47) _ rfl wr.heap.size 97 i0 _ 6 48 Try.underlying32 hi hz0 hz1 hz2 rfl (by decide) _ _ _ rfl O2.out _ _ (ls.length - (k + 1)) (cz - (k + 1)) (valsLs (ls.drop (k + 1))) rfl (drop_readsLs T2.out (by omega) hlc) (valsLs_one _) (by unfold maxLen; omega) (by omega) E2.out.size ?_; intro v2 W3 own2 gr2 ob2; have E3 := Lib.hid (E2.out.grown gr2 E2.out.size (fun q hq => (O2.out.lt q hq).1)); have hcap2 := own_capLs own2; obtain ⟨b2, cap2, rfl, T3⟩ := own_bothLs own2 hlt; have hcap3 := Lib.hid (hcap2 _ _ _ rfl); clear hcap2; have HL : Hid ((ls.take k ++ ls.drop (k + 1)).length ≤ 1048576) := (show _ ≤ _ by rw [List.length_append, List.length_take, List.length_drop]; omega); generalize ls.take k ++ ls.drop (k + 1) = L at T3 HWO HTE HL hcap3 ⊢; have T3 := Lib.hid T3; generalize (if cz = k + 1 then (some ⟨g, oo, none⟩ : Option Addr) else some ⟨g, oo + (k + 1) * 6, none⟩) = A44; clear gr2 ob2 own2 O2 T2; refine hK.out _ _ (⟨trivial, E3.out⟩) (fun hHeld => ?_); clear hK K)
        try simp only [Act.put, List.setIfInBounds_toArray, List.set_cons_zero, List.set_cons_succ]
        refine wpAnyH_take (i := 10) (oi := ?ooa10) (v := ?vva10) ?hia10 (by kernel_rfl) ?h3a10 ?h4a10 ?h5a10 ?h6a10 (by assumption) ?h8a10
        case hia10 => (simp only [List.getElem?_toArray, List.getElem?_cons_succ, List.getElem?_cons_zero]; rfl)
        case h3a10 => kernel_rfl
        case h4a10 => kernel_rfl
        case h6a10 => (refine Or.inl ⟨by rfl, ?_⟩; intro w hSw; (try dsimp only at hSw); (go_simp <;> with_reducible rfl))
        case h5a10 => exact fun _ _ _ h => h
        try simp only [Act.put, List.setIfInBounds_toArray, List.set_cons_zero, List.set_cons_succ]
        refine wpAnyH_done (by kernel_rfl) ?_ _
        have BX := And.right (by assumption : True ∧ Below wr.heap.size wr _)
        go_wp2_with fail
        refine (lsumF b2 cap2 L _ T3.out HL.out HTE.out).mono ?_
        rintro e W5 ⟨rfl, C⟩
        have T4 := ls_below T3.out C
        have BX2 := bel_tr BX C
        cases hs : sumsB L with
        | false =>
          have B2 := Lib.hid (bel_tr HB.out BX2)
          clear BX BX2 T4 C
          go_wp2_with fail
          go_roundw
          case rel => exact ⟨k + 1, by omega, by go_num, B2.out⟩
          case measure => simp [intOf]; omega
        | true =>
          have HN : Hid (lzB hs0 L = true) := HWO.out hs
          go_wp2_with fail
          refine (iLeases b cp hs0 b2 cap2 L _ (hs_below HI.out (bel_tr (bel_tr HD0.out HB.out) BX2)) n1 T4 HL.out).mono ?_
          rw [HN.out]
          rintro e W6 ⟨rfl, C6⟩
          have B2 := Lib.hid (bel_tr HB.out (bel_tr BX2 C6))
          clear BX BX2 T4 C C6
          go_wp2_with fail
          go_roundw
          case rel => exact ⟨k + 1, by omega, by go_num, B2.out⟩
          case measure => simp [intOf]; omega
      · have HBE := Lib.hid (bel_tr HB0.out hB)
        have HDE := Lib.hid (bel_tr HD0.out hB)
        clear hB
        go_wp2_with fail
        refine (iLeases b cp hs0 none 0 [] _ (hs_below HI.out HDE.out) n1 (.inl rfl) (by decide)).mono ?_
        rw [HNIL.out]
        rintro e W7 ⟨rfl, C7⟩
        have HBE2 := Lib.hid (bel_tr HBE.out C7)
        clear C7
        go_wp2_with fail
        go_ret
        exact ⟨rfl, HBE2.out⟩

theorem lifted (os : Os) (started : os.Started) (H : Type) (enc : TypeId × Value → H) :
    ReturnsInHanded {} Try.checked os 4 .any (Rows.fnValidLeasesSpec.pre6 enc Try.prog Try.f4 Rows.fnValidLeasesRow.domain false) (Rows.fnValidLeasesSpec.post enc Try.prog Try.f4 false true false false) := by
  refine returnsInHanded_of_change (C := Try.checked) own started (by kernel_rfl) Try.func4
    (ChangeSpec.witness6 (enc := enc) (C := Try.checked) false ⟨#[], #[.slice none 0 0], []⟩ 8 (by kernel_rfl) (by kernel_rfl) (by kernel_rfl) (by kernel_rfl)) ?_
  intro W base args ds gs before hval0 hW hcnd _
  have hval : ∀ (j : Nat) t v, Try.f4.params[j]? = some t → args[j]? = some v → Value.okWide Try.prog W .any base t v := hval0
  have hW' := hW
  obtain ⟨p, q, hA0, hV, rfl, hfz, hnd⟩ := hW
  have hA : DataW.TrodAll enc Try.prog W 0 (fun _ => true) true Try.f4.params.toList args.toList ds p := hA0
  rw [Try.params4] at hA hval
  obtain ⟨v0, vs0, e0, es0, p0, q0, hargs, rfl, rfl, h0, r0⟩ := trodAll_cons hA
  obtain ⟨rfl, rfl, rfl⟩ := trodAll_nil r0
  obtain rfl : args = #[v0] := by cases args; simp_all
  obtain ⟨rfl, rfl⟩ := trodVars_none hV
  have k0 := h0
  have lt0 : ∀ x ∈ p0, x.block < W.heap.size := by obtain ⟨m, hm⟩ := k0; exact DataW.trod_lt m _ _ _ hm
  obtain ⟨a0, len0, cap0, rfl⟩ := okWide_slice Try.underlying22 (hval 0 22 v0 rfl rfl)
  obtain ⟨z0, w0⟩ : ∃ zs, IsRow .u8 W a0 len0 cap0 zs := by
    obtain ⟨fuel, hf⟩ := h0
    rcases open_ints Try.underlying22 Try.underlying5 (by kernel_rfl) hf with ⟨hcs, _⟩ | ⟨x, l, c, zs, hcs, _, hl, hm, hz, _, hcell, hwz⟩
    · simp [Value.cells] at hcs
      obtain ⟨rfl, rfl, rfl⟩ := hcs
      exact ⟨[], .inl ⟨rfl, rfl, rfl, rfl⟩⟩
    · simp [Value.cells] at hcs
      obtain ⟨rfl, rfl, rfl⟩ := hcs
      exact ⟨zs, .inr ⟨_, rfl, hl, hm, by simpa using hz, hcell, hwz⟩⟩
  clear hA0 hval0
  refine (walk a0 len0 cap0 z0 W w0).mono fun e W' ⟨he, bel⟩ => ?_
  subst he
  exact ⟨_, rfl, _, _, _, [], _, [], hW', trodAll_mk1 (shut_bool Try.underlying4 _), (trodAll_cons_mk (Below.trod laidOut (by kernel_rfl) (of_decide_eq_true (by kernel_rfl)) k0 bel lt0) trodAll_mk0), rfl, bel.frame _, fun h => by cases h⟩

theorem over : Rows.fnValidLeasesRow.holds Try.pinned (OpenSpec.ofChange Rows.fnValidLeasesSpec) :=
  OpenClaim.holds_of_wide 4 Try.f4 rfl rfl rfl rfl rfl rfl rfl ⟨rfl, rfl, rfl, rfl, rfl⟩ rfl rfl rfl rfl rfl (by kernel_rfl) Try.func4 (by kernel_rfl)
    (of_decide_eq_true (by kernel_rfl)) (by unfold Func.isWrapper; first | (rw [if_pos (by decide +kernel)]; kernel_rfl) | (rw [if_neg (by decide +kernel)]; exact ⟨rfl, rfl⟩))
    (fun os started H enc _ => lifted os started H enc)

end Go.Proofs.Ytaehemmjemhgpaa.fnValidLeases
namespace Go.Proofs.Ytaehemmjemhgpaa
/-- the statement -/
theorem fnValidLeases_holds : Rows.FnValidLeasesSaid := fnValidLeases.over
end Go.Proofs.Ytaehemmjemhgpaa
