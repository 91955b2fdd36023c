/- For every input the law answers true, and its argument reads afterwards as before: rotations can be shortened. No condition. -/
import Derived.Test.YthkeopkehjkpeaaRows
import Derived.Test.YthkeopkehjkpeaaDrawTm
import Derived.Test.YthkeopkehjkpeaaTurnN
import Derived.Test.YthkeopkehjkpeaaReads
import Derived.WalkKit
import Derived.Deep.RegionHeld3
import Derived.ProofKit
import Derived.OpenShut
import Derived.ShutString
import Derived.ChangeOld
import Derived.Below
import Derived.Lib.SmallJoins
namespace Go.Proofs.Ythkeopkehjkpeaa.fnValidTurns
open Go.ChangeShapes Go.WideShapes Go.ChangeAt Go.RowKit Go.Joins
open Go.ChangeMaps (open_string shut_string)
set_option linter.unusedVariables false
set_option linter.unusedSimpArgs false

theorem own : ownKnob Try.prog.godebug = none := by kernel_rfl
theorem laidOut : laidOutB Try.prog = true := by kernel_rfl

set_option maxRecDepth 100000 in
set_option maxHeartbeats 6000000 in
theorem walk (a0 : Option Addr) (len0 cap0 : Nat) (z0 : List Int) (w : World) (w0 : IsRow .u8 w a0 len0 cap0 z0) :
    Calls Try.prog 3 #[.slice a0 len0 cap0] w fun e w' => e = .returned (.bool true) ∧ Below w.heap.size w w' := by
  by_cases big : (1048576 : Int) < (len0 : Int)
  · go_enter Try.func3, Try.ntmps3
    go_wp2
    go_ret
    exact ⟨rfl, Below.refl _ _⟩
  go_enter Try.func3, Try.ntmps3
  go_wp2_with fail
  refine (drawValidTurns a0 len0 cap0 z0 _ w0).mono ?_
  rintro e u1 ⟨b, cp, xs, rfl, hl6, hlc, hi, hz, B⟩
  clear w0 big
  have n1 : xs.length ≤ 1048576 := by omega
  have HI := Lib.hid hi
  have HZ := Lib.hid hz
  have D := Below.refl u1.heap.size u1
  clear hi hz
  cases hv : vtB xs with
  | false =>
    have CI : ∀ W, Below u1.heap.size u1 W → Calls Try.prog 15 #[.slice b xs.length cp] W fun e w' => e = .returned (.bool false) ∧ Below W.heap.size W w' := fun W hW => by
      have := iVT b cp xs W (tn_below HI.out hW) n1
      rw [hv] at this; exact this
    have CS : ∀ W, Below u1.heap.size u1 W → Calls Try.prog 16 #[.slice b xs.length cp] W fun e w' => e = .returned (.bool false) ∧ Below W.heap.size W w' := fun W hW => by
      have := sValidTurns b cp xs W (tn_below HI.out hW) n1
      rw [hv] at this; exact this
    clear hv
    go_wp2_with fail
    refine (CI _ D).mono ?_
    rintro e u ⟨rfl, C⟩
    replace B := bel_tr B C
    replace D := bel_tr D C
    clear C
    go_wp2_with fail
    refine (CS _ D).mono ?_
    rintro e u ⟨rfl, C⟩
    replace B := bel_tr B C
    replace D := bel_tr D C
    clear C
    go_wp2_with fail
    refine (CS _ D).mono ?_
    rintro e u ⟨rfl, C⟩
    replace B := bel_tr B C
    replace D := bel_tr D C
    clear C
    go_wp2_with fail
    go_ret
    exact ⟨rfl, B⟩
  | true =>
    have CI : ∀ W, Below u1.heap.size u1 W → Calls Try.prog 15 #[.slice b xs.length cp] W fun e w' => e = .returned (.bool true) ∧ Below W.heap.size W w' := fun W hW => by
      have := iVT b cp xs W (tn_below HI.out hW) n1
      rw [hv] at this; exact this
    have CS : ∀ W, Below u1.heap.size u1 W → Calls Try.prog 16 #[.slice b xs.length cp] W fun e w' => e = .returned (.bool true) ∧ Below W.heap.size W w' := fun W hW => by
      have := sValidTurns b cp xs W (tn_below HI.out hW) n1
      rw [hv] at this; exact this
    obtain ⟨l1, l24, _, s0, s1⟩ := vt_is hv
    have hsl := sum_len (fun z hz => (vt_mem hv z hz).2.2.1)
    have hwo : ∀ k, k < xs.length → 1 < xs.length → vtB (xs.take k ++ xs.drop (k + 1)) = true := fun k hk h1 => vt_without hv hk h1
    obtain ⟨p, hpp⟩ : ∃ p, sumT xs = p := ⟨_, rfl⟩
    have HP := Lib.hid ((per_val hv).trans hpp)
    rw [hpp] at hsl
    have CP : ∀ W, Below u1.heap.size u1 W → Calls Try.prog 17 #[.slice b xs.length cp] W fun e w' => e = .returned (.int .i64 p) ∧ Below W.heap.size W w' := fun W hW => by
      have := iPeriodOf b cp xs W (tn_below HI.out hW) n1 hlc
      rw [HP.out] at this; exact this
    have HWO := Lib.hid hwo
    have hcl : IsTn u1 b xs := HI.out
    rcases hcl with rfl | ⟨g, oo, rfl, hc⟩
    · simp at l1
    have HC := Lib.hid hc
    have ple : decide ((xs.length : Int) ≤ p) = true := decide_eq_true hsl
    obtain ⟨i0, hi, hz0, hz1, hz2⟩ := info_parts infoTn
    clear hv hwo hpp hc hsl s0 s1
    go_wp2_with fail
    refine (CI _ D).mono ?_
    rintro e u ⟨rfl, C⟩
    replace B := bel_tr B C
    replace D := bel_tr D C
    clear C
    go_wp2_with fail
    refine (CS _ D).mono ?_
    rintro e u ⟨rfl, C⟩
    replace B := bel_tr B C
    replace D := bel_tr D C
    clear C
    go_wp2_with fail
    clear CI CS
    go_loopw [5] (fun x wr => ∃ k : Nat, k ≤ xs.length ∧ x = .int .i64 k ∧ Below w.heap.size w wr ∧ Below u1.heap.size u1 wr) (fun x _ => xs.length - (intOf x).toNat)
    case atStart => exact ⟨0, Nat.zero_le _, rfl, B, D⟩
    case round =>
      clear B D
      obtain ⟨k, hk, rfl, B, D⟩ := hrel
      by_cases hlt : k < xs.length
      · by_cases h1 : 1 < xs.length
        · have hw := HWO.out k hlt h1
          have e1 : decide ((1 : Int) < (xs.length : Int)) = true := decide_eq_true (by omega)
          have k0 : (0 : Int) ≤ (k : Int) := by omega
          have k1 : (k : Int) ≤ (xs.length : Int) := by omega
          have k2 : (k : Int) + 1 ≤ (xs.length : Int) := by omega
          have k3 : (0 : Int) ≤ (k : Int) + 1 := by omega
          have t1 : ((k : Int) + 1).toNat = k + 1 := by omega
          have kc : (k : Int) ≤ (cp : Int) := by omega
          have wk : IntKind.i64.wrap ((k : Int) + 1) = (k : Int) + 1 := wrap_small (by omega)
          have HB := Lib.hid B
          have HD := Lib.hid D
          have HV := Lib.hid hw
          clear B D hw CP
          go_wp2_with fail
          refine wp_region_held_drew (S := (fun w' => True ∧ Below wr.heap.size wr w')) (by kernel_rfl) ?_ (fun hHeld => ?_)
          · exact ⟨trivial, (Below.refl _ _).drew⟩
          refine wpAnyH_take (i := 1) (oi := ?ooa1) (v := ?vva1) ?hia1 (by kernel_rfl) ?h3a1 ?h4a1 ?h5a1 ?h6a1 (by assumption) ?h8a1
          case hia1 => (simp only [List.getElem?_toArray, List.getElem?_cons_succ, List.getElem?_cons_zero]; rfl)
          case h3a1 => kernel_rfl
          case h4a1 => kernel_rfl
          case h6a1 => (refine Or.inl ⟨by rfl, ?_⟩; intro w hSw; (try dsimp only at hSw); (go_simp <;> with_reducible rfl))
          case h5a1 => exact fun _ _ _ h => h
          try simp only [Act.put, List.setIfInBounds_toArray, List.set_cons_zero, List.set_cons_succ]
          refine wpAnyH_take (i := 2) (oi := ?ooa2) (v := ?vva2) ?hia2 (by kernel_rfl) ?h3a2 ?h4a2 ?h5a2 ?h6a2 (by assumption) ?h8a2
          case hia2 => (simp only [List.getElem?_toArray, List.getElem?_cons_succ, List.getElem?_cons_zero]; rfl)
          case h3a2 => kernel_rfl
          case h4a2 => kernel_rfl
          case h6a2 => (refine Or.inl ⟨by rfl, ?_⟩; intro w hSw; (try dsimp only at hSw); (go_simp <;> with_reducible rfl))
          case h5a2 => exact fun _ _ _ h => h
          try simp only [Act.put, List.setIfInBounds_toArray, List.set_cons_zero, List.set_cons_succ]
          refine wpAnyH_take (i := 3) (oi := ?ooa3) (v := ?vva3) ?hia3 (by kernel_rfl) ?h3a3 ?h4a3 ?h5a3 ?h6a3 (by assumption) ?h8a3
          case hia3 => (simp only [List.getElem?_toArray, List.getElem?_cons_succ, List.getElem?_cons_zero]; rfl)
          case h3a3 => kernel_rfl
          case h4a3 => kernel_rfl
          case h6a3 => (refine Or.inl ⟨by rfl, ?_⟩; intro w hSw; (try dsimp only at hSw); (go_simp <;> with_reducible rfl))
          case h5a3 => exact fun _ _ _ h => h
          try simp only [Act.put, List.setIfInBounds_toArray, List.set_cons_zero, List.set_cons_succ]
          refine wpAnyH_take (i := 5) (oi := ?ooa5) (v := ?vva5) ?hia5 (by kernel_rfl) ?h3a5 ?h4a5 ?h5a5 ?h6a5 (by assumption) ?h8a5
          case hia5 => (simp only [List.getElem?_toArray, List.getElem?_cons_succ, List.getElem?_cons_zero]; rfl)
          case h3a5 => kernel_rfl
          case h4a5 => kernel_rfl
          case h6a5 => (refine Or.inl ⟨by rfl, ?_⟩; intro w hSw; (try dsimp only at hSw); (go_simp <;> with_reducible rfl))
          case h5a5 => exact fun _ _ _ h => h
          try simp only [Act.put, List.setIfInBounds_toArray, List.set_cons_zero, List.set_cons_succ]
          refine wpAnyH_take (i := 6) (oi := ?ooa6) (v := ?vva6) ?hia6 (by kernel_rfl) ?h3a6 ?h4a6 ?h5a6 ?h6a6 (by assumption) ?h8a6
          case hia6 => (simp only [List.getElem?_toArray, List.getElem?_cons_succ, List.getElem?_cons_zero]; rfl)
          case h3a6 => kernel_rfl
          case h4a6 => kernel_rfl
          case h6a6 => (refine Or.inl ⟨by rfl, ?_⟩; intro w hSw; (try dsimp only at hSw); (go_simp <;> with_reducible rfl))
          case h5a6 => exact fun _ _ _ h => h
          try simp only [Act.put, List.setIfInBounds_toArray, List.set_cons_zero, List.set_cons_succ]
          refine wpAnyH_take (i := 7) (oi := ?ooa7) (v := ?vva7) ?hia7 (by kernel_rfl) ?h3a7 ?h4a7 ?h5a7 ?h6a7 (by assumption) ?h8a7
          case hia7 => (simp only [List.getElem?_toArray, List.getElem?_cons_succ, List.getElem?_cons_zero]; rfl)
          case h3a7 => kernel_rfl
          case h4a7 => kernel_rfl
          case h6a7 => (refine Or.inl ⟨by rfl, ?_⟩; intro w hSw; (try dsimp only at hSw); (go_simp <;> with_reducible rfl))
          case h5a7 => exact fun _ _ _ h => h
          try simp only [Act.put, List.setIfInBounds_toArray, List.set_cons_zero, List.set_cons_succ]
          refine wpAnyH_take (i := 8) (oi := ?ooa8) (v := ?vva8) ?hia8 (by kernel_rfl) ?h3a8 ?h4a8 ?h5a8 ?h6a8 (by assumption) ?h8a8
          case hia8 => (simp only [List.getElem?_toArray, List.getElem?_cons_succ, List.getElem?_cons_zero]; rfl)
          case h3a8 => kernel_rfl
          case h4a8 => kernel_rfl
          case h6a8 => (refine Or.inl ⟨by rfl, ?_⟩; intro w hSw; (try dsimp only at hSw); (go_simp <;> with_reducible rfl))
          case h5a8 => exact fun _ _ _ h => h
          try simp only [Act.put, List.setIfInBounds_toArray, List.set_cons_zero, List.set_cons_succ]
          refine wpAnyH_ready (rs := [0]) (by kernel_rfl) (by simp) (AllReadyH.cons (o := ?ooa0) ?hia0 (fun K hK => ?hka0) AllReadyH.nil)
          rotate_left
          case hia0 => (simp only [List.getElem?_toArray, List.getElem?_cons_succ, List.getElem?_cons_zero]; rfl)
          (rw [if_pos (by rfl)]; go_simp; have O1 := Lib.hid (own_empty wr.drew); have T1 := Lib.hid (tn_below (tn_below HI.out HD.out) (hHeld.2.alloc hHeld.2.size (.cells #[] 31))); have E1 := Lib.hid (hHeld.2.alloc hHeld.2.size (.cells #[] 31)); refine hK.out _ _ (⟨trivial, E1.out⟩) (fun hHeld => ?_); clear hK K)
          try simp only [Act.put, List.setIfInBounds_toArray, List.set_cons_zero, List.set_cons_succ]
          refine wpAnyH_ready (rs := [4]) (by kernel_rfl) (by simp) (AllReadyH.cons (o := ?ooa4) ?hia4 (fun K hK => ?hka4) AllReadyH.nil)
          rotate_left
          case hia4 => (simp only [List.getElem?_toArray, List.getElem?_cons_succ, List.getElem?_cons_zero]; rfl)
          (rw [if_pos (by rfl)]; refine wp_append_any _ (.tmp 36) (.tmp 39) _ rfl wr.heap.size 31 i0 _ 2 16 Try.underlying23 hi hz0 hz1 hz2 rfl (by decide) _ 0 [] rfl O1.out _ (some ⟨g, oo, none⟩) k cp (valsTn (xs.take k)) rfl (take_reads T1.out (by omega)) (valsTn_one _) (by unfold maxLen; omega) (by omega) E1.out.size ?_; intro v1 W2 own1 gr1 ob1; have E2 := Lib.hid (E1.out.grown gr1 E1.out.size (fun q hq => (O1.out.lt q hq).1)); have T2 := Lib.hid (tn_below (tn_below HI.out HD.out) E2.out); have O2 := Lib.hid own1; clear gr1 ob1 own1 O1 T1; refine hK.out _ _ (⟨trivial, E2.out⟩) (fun hHeld => ?_); clear hK K)
          try simp only [Act.put, List.setIfInBounds_toArray, List.set_cons_zero, List.set_cons_succ]
          refine wpAnyH_ready (rs := [9]) (by kernel_rfl) (by simp) (AllReadyH.cons (o := ?ooa9) ?hia9 (fun K hK => ?hka9) AllReadyH.nil)
          rotate_left
          case hia9 => (simp only [List.getElem?_toArray, List.getElem?_cons_succ, List.getElem?_cons_zero]; rfl)
          (rw [if_pos (by rfl)]; refine wp_append_any _ (.tmp 40) (.tmp 44) _ rfl wr.heap.size 31 i0 _ 2 16 Try.underlying23 hi hz0 hz1 hz2 rfl (by decide) _ _ _ rfl O2.out _ _ (xs.length - (k + 1)) (cp - (k + 1)) (valsTn (xs.drop (k + 1))) rfl (drop_reads T2.out (by omega) hlc) (valsTn_one _) (by unfold maxLen; omega) (by omega) E2.out.size ?_; intro v2 W3 own2 gr2 ob2; have E3 := Lib.hid (E2.out.grown gr2 E2.out.size (fun q hq => (O2.out.lt q hq).1)); obtain ⟨b2, cap2, rfl, T3⟩ := own_both own2 hlt; have HL : (xs.take k ++ xs.drop (k + 1)).length ≤ 1048576 := (by rw [List.length_append, List.length_take, List.length_drop]; omega); generalize xs.take k ++ xs.drop (k + 1) = L at T3 HV HL ⊢; have T3 := Lib.hid T3; generalize (if cp = k + 1 then (some ⟨g, oo, none⟩ : Option Addr) else some ⟨g, oo + (k + 1) * 2, none⟩) = A44; clear gr2 ob2 own2 O2 T2; refine hK.out _ _ (⟨trivial, E3.out⟩) (fun hHeld => ?_); clear hK K)
          try simp only [Act.put, List.setIfInBounds_toArray, List.set_cons_zero, List.set_cons_succ]
          refine wpAnyH_ready (rs := [10]) (by kernel_rfl) (by simp) (AllReadyH.cons (o := ?ooa10) ?hia10 (fun K hK => ?hka10) AllReadyH.nil)
          rotate_left
          case hia10 => (simp only [List.getElem?_toArray, List.getElem?_cons_succ, List.getElem?_cons_zero]; rfl)
          (rw [if_pos (by rfl)]; go_simp; refine (iVT b2 cap2 _ _ T3.out HL).mono ?_; rintro e W4 ⟨rfl, hb⟩; rw [HV.out]; go_wp2_with fail; refine hK.out _ _ (⟨trivial, bel_tr E3.out hb⟩) (fun hHeld => ?_); clear hK K)
          try simp only [Act.put, List.setIfInBounds_toArray, List.set_cons_zero, List.set_cons_succ]
          refine wpAnyH_take (i := 11) (oi := ?ooa11) (v := ?vva11) ?hia11 (by kernel_rfl) ?h3a11 ?h4a11 ?h5a11 ?h6a11 (by assumption) ?h8a11
          case hia11 => (simp only [List.getElem?_toArray, List.getElem?_cons_succ, List.getElem?_cons_zero]; rfl)
          case h3a11 => kernel_rfl
          case h4a11 => kernel_rfl
          case h6a11 => (refine Or.inl ⟨by rfl, ?_⟩; intro w hSw; (try dsimp only at hSw); (go_simp <;> with_reducible rfl))
          case h5a11 => exact fun _ _ _ h => h
          try simp only [Act.put, List.setIfInBounds_toArray, List.set_cons_zero, List.set_cons_succ]
          refine wpAnyH_done (by kernel_rfl) ?_ _
          have B := bel_tr HB.out (And.right (by assumption))
          have D := bel_tr HD.out (And.right (by assumption))
          go_wp2_with fail
          go_roundw
          case rel => exact ⟨k + 1, by omega, by go_num, B, D⟩
          case measure => simp [intOf]; omega
        · have e1 : decide ((1 : Int) < (xs.length : Int)) = false := decide_eq_false (by omega)
          go_wp2_with fail
          refine (CP _ D).mono ?_
          rintro e u ⟨rfl, C⟩
          replace B := bel_tr B C
          clear C
          go_wp2_with fail
          go_ret
          exact ⟨rfl, B⟩
      · obtain rfl : k = xs.length := by omega
        go_wp2_with fail
        refine (CP _ D).mono ?_
        rintro e u ⟨rfl, C⟩
        replace B := bel_tr B C
        clear C
        go_wp2_with fail
        go_ret
        exact ⟨rfl, B⟩

set_option maxRecDepth 100000 in
theorem lifted (os : Os) (started : os.Started) (H : Type) (enc : TypeId × Value → H) :
    ReturnsInHanded {} Try.checked os 3 .any (Rows.fnValidTurnsSpec.pre6 enc Try.prog Try.f3 Rows.fnValidTurnsRow.domain false) (Rows.fnValidTurnsSpec.post enc Try.prog Try.f3 false true false false) := by
  refine returnsInHanded_of_change (C := Try.checked) own started (by kernel_rfl) Try.func3
    (ChangeSpec.witness6 (enc := enc) (C := Try.checked) false ⟨#[], #[.slice none 0 0], []⟩ 8 (by kernel_rfl) (by kernel_rfl) (by kernel_rfl) (by kernel_rfl)) ?_
  intro W base args ds gs before hval0 hW hcnd _
  have hval : ∀ (j : Nat) t v, Try.f3.params[j]? = some t → args[j]? = some v → Value.okWide Try.prog W .any base t v := hval0
  have hW' := hW
  obtain ⟨p, q, hA0, hV, rfl, hfz, hnd⟩ := hW
  have hA : DataW.TrodAll enc Try.prog W 0 (fun _ => true) true Try.f3.params.toList args.toList ds p := hA0
  rw [Try.params3] at hA hval
  obtain ⟨v0, vs0, e0, es0, p0, q0, hargs, rfl, rfl, h0, r0⟩ := trodAll_cons hA
  obtain ⟨rfl, rfl, rfl⟩ := trodAll_nil r0
  obtain rfl : args = #[v0] := by cases args; simp_all
  obtain ⟨rfl, rfl⟩ := trodVars_none hV
  have k0 := h0
  have lt0 : ∀ x ∈ p0, x.block < W.heap.size := by obtain ⟨m, hm⟩ := k0; exact DataW.trod_lt m _ _ _ hm
  obtain ⟨a0, len0, cap0, rfl⟩ := okWide_slice Try.underlying22 (hval 0 22 v0 rfl rfl)
  obtain ⟨z0, w0⟩ : ∃ zs, IsRow .u8 W a0 len0 cap0 zs := by
    obtain ⟨fuel, hf⟩ := h0
    rcases open_ints Try.underlying22 Try.underlying5 (by kernel_rfl) hf with ⟨hcs, _⟩ | ⟨x, l, c, zs, hcs, _, hl, hm, hz, _, hcell, hwz⟩
    · simp [Value.cells] at hcs
      obtain ⟨rfl, rfl, rfl⟩ := hcs
      exact ⟨[], .inl ⟨rfl, rfl, rfl, rfl⟩⟩
    · simp [Value.cells] at hcs
      obtain ⟨rfl, rfl, rfl⟩ := hcs
      exact ⟨zs, .inr ⟨_, rfl, hl, hm, by simpa using hz, hcell, hwz⟩⟩
  clear hA0 hval0
  refine (walk a0 len0 cap0 z0 W w0).mono fun e W' ⟨he, bel⟩ => ?_
  subst he
  exact ⟨_, rfl, _, _, _, [], _, [], hW', trodAll_mk1 (shut_bool Try.underlying4 _), (trodAll_cons_mk (Below.trod laidOut (by kernel_rfl) (of_decide_eq_true (by kernel_rfl)) k0 bel lt0) trodAll_mk0), rfl, bel.frame _, fun h => by cases h⟩

theorem over : Rows.fnValidTurnsRow.holds Try.pinned (OpenSpec.ofChange Rows.fnValidTurnsSpec) :=
  OpenClaim.holds_of_wide 3 Try.f3 rfl rfl rfl rfl rfl rfl rfl ⟨rfl, rfl, rfl, rfl, rfl⟩ rfl rfl rfl rfl rfl (by kernel_rfl) Try.func3 (by kernel_rfl)
    (of_decide_eq_true (by kernel_rfl)) (by unfold Func.isWrapper; first | (rw [if_pos (by decide +kernel)]; kernel_rfl) | (rw [if_neg (by decide +kernel)]; exact ⟨rfl, rfl⟩))
    (fun os started H enc _ => lifted os started H enc)

end Go.Proofs.Ythkeopkehjkpeaa.fnValidTurns
namespace Go.Proofs.Ythkeopkehjkpeaa
/-- the statement -/
theorem fnValidTurns_holds : Rows.FnValidTurnsSaid := fnValidTurns.over
end Go.Proofs.Ythkeopkehjkpeaa
