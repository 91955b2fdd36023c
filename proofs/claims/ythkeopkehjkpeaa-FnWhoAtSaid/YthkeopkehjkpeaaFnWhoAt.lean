/- For every input the law answers true, and its argument reads afterwards as before: turns come again. No condition. -/
import Derived.Test.YthkeopkehjkpeaaRows
import Derived.Test.YthkeopkehjkpeaaDrawTm
import Derived.Test.YthkeopkehjkpeaaTurnM
import Derived.WalkKit
import Derived.Deep.RegionHeld3
import Derived.ProofKit
import Derived.OpenShut
import Derived.ShutString
import Derived.ChangeOld
import Derived.Below
import Derived.Lib.SmallJoins
namespace Go.Proofs.Ythkeopkehjkpeaa.fnWhoAt
open Go.ChangeShapes Go.WideShapes Go.ChangeAt Go.RowKit Go.Joins
open Go.ChangeMaps (open_string shut_string)
set_option linter.unusedVariables false

theorem own : ownKnob Try.prog.godebug = none := by kernel_rfl
theorem laidOut : laidOutB Try.prog = true := by kernel_rfl

set_option maxRecDepth 100000 in
set_option maxHeartbeats 6000000 in
theorem walk (a0 : Option Addr) (len0 cap0 : Nat) (z0 : List Int) (w : World) (w0 : IsRow .u8 w a0 len0 cap0 z0) :
    Calls Try.prog 5 #[.slice a0 len0 cap0] w fun e w' => e = .returned (.bool true) ∧ Below w.heap.size w w' := by
  by_cases big : (1048576 : Int) < (len0 : Int)
  · go_enter Try.func5, Try.ntmps5
    go_wp2
    go_ret
    exact ⟨rfl, Below.refl _ _⟩
  go_enter Try.func5, Try.ntmps5
  go_wp2_with fail
  refine (drawWhoAt a0 len0 cap0 z0 _ w0).mono ?_
  rintro e u1 ⟨b, cp, xs, t, rfl, hl6, hlc, hi, hz, t0, t1, B⟩
  clear w0 big
  have n1 : xs.length ≤ 1048576 := by omega
  have HI := Lib.hid hi
  have HZ := Lib.hid hz
  have D := Below.refl u1.heap.size u1
  clear hi hz
  by_cases hv : whoV xs t = -1
  · have HVV := Lib.hid hv
    have CIWhoAt : ∀ W, Below u1.heap.size u1 W → Calls Try.prog 24 #[.slice b xs.length cp, .int .i64 t] W fun e w' => e = .returned (.int .i64 (-1)) ∧ Below W.heap.size W w' := fun W hW => by
      have := iWhoAt b cp xs t W (tn_below HI.out hW) n1 hlc (wf_small (by omega))
      rw [HVV.out] at this; exact this
    have CSWhoAt : ∀ W, Below u1.heap.size u1 W → Calls Try.prog 25 #[.slice b xs.length cp, .int .i64 t] W fun e w' => e = .returned (.int .i64 (-1)) ∧ Below W.heap.size W w' := fun W hW => by
      have := sWhoAt b cp xs t W (tn_below HI.out hW) n1
      rw [HVV.out] at this; exact this
    clear hv
    go_wp2_with fail
    refine (CIWhoAt _ D).mono ?_
    rintro e u ⟨rfl, C⟩
    replace B := bel_tr B C
    replace D := bel_tr D C
    clear C
    go_wp2_with fail
    refine (CSWhoAt _ D).mono ?_
    rintro e u ⟨rfl, C⟩
    replace B := bel_tr B C
    replace D := bel_tr D C
    clear C
    go_wp2_with fail
    refine (CSWhoAt _ D).mono ?_
    rintro e u ⟨rfl, C⟩
    replace B := bel_tr B C
    replace D := bel_tr D C
    clear C
    go_wp2_with fail
    go_ret
    exact ⟨rfl, B⟩
  · obtain ⟨ok, a0, a1, v1, v2⟩ := who_yes hv
    obtain ⟨l1, l24, _, s0, s1⟩ := vt_is ok
    have hper : t + sumT xs ≤ 5000 → whoV xs (t + sumT xs) = whoV xs t := fun hle => by
      rw [who_val ok a0 a1, who_val ok (by omega) hle, who_per]
    obtain ⟨v, hvv⟩ : ∃ v, whoV xs t = v := ⟨_, rfl⟩
    obtain ⟨p, hpp⟩ : ∃ p, sumT xs = p := ⟨_, rfl⟩
    have hst : ∀ k, k < xs.length → startV xs (k : Int) = sumT (xs.take k) ∧ whoV xs (sumT (xs.take k)) = (xs.getD k tn0).1 ∧ 0 ≤ sumT (xs.take k) ∧ sumT (xs.take k) ≤ 336 := fun k hk => by
      obtain ⟨b0, b1, b2⟩ := take_sumT ok hk
      refine ⟨by rw [start_at ok k, if_pos hk], ?_, b0, by omega⟩
      rw [who_val ok b0 (by omega), whoM_start ok hk]
    have HP := Lib.hid ((per_val ok).trans hpp)
    rw [hvv] at v1 v2 hper
    rw [hpp] at s0 s1 hper
    have CIWhoAt : ∀ W, Below u1.heap.size u1 W → Calls Try.prog 24 #[.slice b xs.length cp, .int .i64 t] W fun e w' => e = .returned (.int .i64 v) ∧ Below W.heap.size W w' := fun W hW => by
      have := iWhoAt b cp xs t W (tn_below HI.out hW) n1 hlc (wf_small (by omega))
      rw [hvv] at this; exact this
    have CSWhoAt : ∀ W, Below u1.heap.size u1 W → Calls Try.prog 25 #[.slice b xs.length cp, .int .i64 t] W fun e w' => e = .returned (.int .i64 v) ∧ Below W.heap.size W w' := fun W hW => by
      have := sWhoAt b cp xs t W (tn_below HI.out hW) n1
      rw [hvv] at this; exact this
    have CW : ∀ y V, whoV xs y = V → -1000000 ≤ y ∧ y ≤ 1000000 → ∀ W, Below u1.heap.size u1 W → Calls Try.prog 24 #[.slice b xs.length cp, .int .i64 y] W fun e w' => e = .returned (.int .i64 V) ∧ Below W.heap.size W w' := fun y V hV bp W hW => by
      have := iWhoAt b cp xs y W (tn_below HI.out hW) n1 hlc (wf_small bp)
      rw [hV] at this; exact this
    have CT : ∀ y V, startV xs y = V → -1000000 ≤ y ∧ y ≤ 1000000 → ∀ W, Below u1.heap.size u1 W → Calls Try.prog 21 #[.slice b xs.length cp, .int .i64 y] W fun e w' => e = .returned (.int .i64 V) ∧ Below W.heap.size W w' := fun y V hV bp W hW => by
      have := iStartOf b cp xs y W (tn_below HI.out hW) n1 hlc (wf_small bp)
      rw [hV] at this; exact this
    have CP : ∀ W, Below u1.heap.size u1 W → Calls Try.prog 17 #[.slice b xs.length cp] W fun e w' => e = .returned (.int .i64 p) ∧ Below W.heap.size W w' := fun W hW => by
      have := iPeriodOf b cp xs W (tn_below HI.out hW) n1 hlc
      rw [HP.out] at this; exact this
    have vf : decide (v < 0) = false := decide_eq_false (by omega)
    have wrp : IntKind.i64.wrap (t + p) = t + p := wrap_small (by omega)
    have HPER := Lib.hid hper
    have HST := Lib.hid hst
    have hcl : IsTn u1 b xs := HI.out
    rcases hcl with rfl | ⟨g, oo, rfl, hc⟩
    · simp at l1
    have HC := Lib.hid hc
    clear hv hvv hpp ok hper hst hc
    go_wp2_with fail
    refine (CIWhoAt _ D).mono ?_
    rintro e u ⟨rfl, C⟩
    replace B := bel_tr B C
    replace D := bel_tr D C
    clear C
    go_wp2_with fail
    refine (CSWhoAt _ D).mono ?_
    rintro e u ⟨rfl, C⟩
    replace B := bel_tr B C
    replace D := bel_tr D C
    clear C
    go_wp2_with fail
    refine (CP _ D).mono ?_
    rintro e u ⟨rfl, C⟩
    replace B := bel_tr B C
    replace D := bel_tr D C
    clear C
    go_wp2_with fail
    clear CIWhoAt CSWhoAt
    go_loopw [7] (fun x wr => ∃ k : Nat, k ≤ xs.length ∧ x = .int .i64 k ∧ Below w.heap.size w wr ∧ Below u1.heap.size u1 wr) (fun x _ => xs.length - (intOf x).toNat)
    case atStart => exact ⟨0, Nat.zero_le _, rfl, B, D⟩
    case round =>
      clear B D
      obtain ⟨k, hk, rfl, B, D⟩ := hrel
      by_cases hlt : k < xs.length
      · obtain ⟨c0, c1⟩ := tn_at HC.out D hlt
        obtain ⟨t1, t2, t3, t4⟩ := HST.out k hlt
        have C1 := fun W hW => CT (k : Int) _ t1 (by omega) W hW
        have C2 := fun W hW => CW _ _ t2 (by omega) W hW
        generalize xs.getD k tn0 = hh at c0 c1 C2
        obtain ⟨x, y⟩ := hh
        dsimp only at c0 c1 C2
        generalize sumT (xs.take k) = s at C1 C2
        have i0 : (0 : Int) ≤ (k : Int) := by omega
        have i1 : (k : Int) < (xs.length : Int) := by omega
        have HB := Lib.hid B
        have HD := Lib.hid D
        clear c1 t1 t2 t3 t4 CT CW B D
        go_wp2_with fail
        refine wp_region_held_drew (S := (fun w' => w'.cell? ⟨g, oo + k * 2, none⟩ = some (.int .i64 x) ∧ Below wr.heap.size wr w')) (by kernel_rfl) ?_ (fun hHeld => ?_)
        · exact ⟨c0, (Below.refl _ _).drew⟩
        refine wpAnyH_take (i := 0) (oi := ?ooa0) (v := ?vva0) ?hia0 (by kernel_rfl) ?h3a0 ?h4a0 ?h5a0 ?h6a0 (by assumption) ?h8a0
        case hia0 => (simp only [List.getElem?_toArray, List.getElem?_cons_succ, List.getElem?_cons_zero]; rfl)
        case h3a0 => kernel_rfl
        case h4a0 => kernel_rfl
        case h6a0 => (refine Or.inl ⟨by rfl, ?_⟩; intro w hSw; (try dsimp only at hSw); (go_simp <;> with_reducible rfl))
        case h5a0 => exact fun _ _ _ h => h
        try simp only [Act.put, List.setIfInBounds_toArray, List.set_cons_zero, List.set_cons_succ]
        refine wpAnyH_take (i := 1) (oi := ?ooa1) (v := ?vva1) ?hia1 (by kernel_rfl) ?h3a1 ?h4a1 ?h5a1 ?h6a1 (by assumption) ?h8a1
        case hia1 => (simp only [List.getElem?_toArray, List.getElem?_cons_succ, List.getElem?_cons_zero]; rfl)
        case h3a1 => kernel_rfl
        case h4a1 => kernel_rfl
        case h6a1 => (refine Or.inl ⟨by rfl, ?_⟩; intro w hSw; (try dsimp only at hSw); (go_simp <;> with_reducible rfl))
        case h5a1 => exact fun _ _ _ h => h
        try simp only [Act.put, List.setIfInBounds_toArray, List.set_cons_zero, List.set_cons_succ]
        refine wpAnyH_take (i := 2) (oi := ?ooa2) (v := ?vva2) ?hia2 (by kernel_rfl) ?h3a2 ?h4a2 ?h5a2 ?h6a2 (by assumption) ?h8a2
        case hia2 => (simp only [List.getElem?_toArray, List.getElem?_cons_succ, List.getElem?_cons_zero]; rfl)
        case h3a2 => kernel_rfl
        case h4a2 => kernel_rfl
        case h6a2 => (refine Or.inl ⟨by rfl, ?_⟩; intro w hSw; (try dsimp only at hSw); (go_simp <;> with_reducible rfl))
        case h5a2 => exact fun _ _ _ h => h
        try simp only [Act.put, List.setIfInBounds_toArray, List.set_cons_zero, List.set_cons_succ]
        refine wpAnyH_take (i := 5) (oi := ?ooa5) (v := ?vva5) ?hia5 (by kernel_rfl) ?h3a5 ?h4a5 ?h5a5 ?h6a5 (by assumption) ?h8a5
        case hia5 => (simp only [List.getElem?_toArray, List.getElem?_cons_succ, List.getElem?_cons_zero]; rfl)
        case h3a5 => kernel_rfl
        case h4a5 => kernel_rfl
        case h6a5 => (refine Or.inl ⟨by rfl, ?_⟩; intro w hSw; (try dsimp only at hSw); (go_simp <;> with_reducible rfl))
        case h5a5 => exact fun _ _ _ h => h
        try simp only [Act.put, List.setIfInBounds_toArray, List.set_cons_zero, List.set_cons_succ]
        refine wpAnyH_take (i := 6) (oi := ?ooa6) (v := ?vva6) ?hia6 (by kernel_rfl) ?h3a6 ?h4a6 ?h5a6 ?h6a6 (by assumption) ?h8a6
        case hia6 => (simp only [List.getElem?_toArray, List.getElem?_cons_succ, List.getElem?_cons_zero]; rfl)
        case h3a6 => kernel_rfl
        case h4a6 => kernel_rfl
        case h6a6 => (refine Or.inl ⟨by rfl, ?_⟩; intro w hSw; (try dsimp only at hSw); (go_simp <;> with_reducible rfl))
        case h5a6 => exact fun _ _ _ h => h
        try simp only [Act.put, List.setIfInBounds_toArray, List.set_cons_zero, List.set_cons_succ]
        refine wpAnyH_take (i := 7) (oi := ?ooa7) (v := ?vva7) ?hia7 (by kernel_rfl) ?h3a7 ?h4a7 ?h5a7 ?h6a7 (by assumption) ?h8a7
        case hia7 => (simp only [List.getElem?_toArray, List.getElem?_cons_succ, List.getElem?_cons_zero]; rfl)
        case h3a7 => kernel_rfl
        case h4a7 => kernel_rfl
        case h6a7 => (refine Or.inl ⟨by rfl, ?_⟩; intro w hSw; (try dsimp only at hSw); (go_simp <;> with_reducible rfl))
        case h5a7 => exact fun _ _ _ h => h
        try simp only [Act.put, List.setIfInBounds_toArray, List.set_cons_zero, List.set_cons_succ]
        refine wpAnyH_take (i := 8) (oi := ?ooa8) (v := ?vva8) ?hia8 (by kernel_rfl) ?h3a8 ?h4a8 ?h5a8 ?h6a8 (by assumption) ?h8a8
        case hia8 => (simp only [List.getElem?_toArray, List.getElem?_cons_succ, List.getElem?_cons_zero]; rfl)
        case h3a8 => kernel_rfl
        case h4a8 => kernel_rfl
        case h6a8 => (refine Or.inl ⟨by rfl, ?_⟩; intro w hSw; (try dsimp only at hSw); (go_simp <;> with_reducible rfl))
        case h5a8 => exact fun _ _ _ h => h
        try simp only [Act.put, List.setIfInBounds_toArray, List.set_cons_zero, List.set_cons_succ]
        refine wpAnyH_take (i := 9) (oi := ?ooa9) (v := ?vva9) ?hia9 (by kernel_rfl) ?h3a9 ?h4a9 ?h5a9 ?h6a9 (by assumption) ?h8a9
        case hia9 => (simp only [List.getElem?_toArray, List.getElem?_cons_succ, List.getElem?_cons_zero]; rfl)
        case h3a9 => kernel_rfl
        case h4a9 => kernel_rfl
        case h6a9 => (refine Or.inl ⟨by rfl, ?_⟩; intro w hSw; (try dsimp only at hSw); (go_simp <;> with_reducible rfl))
        case h5a9 => exact fun _ _ _ h => h
        try simp only [Act.put, List.setIfInBounds_toArray, List.set_cons_zero, List.set_cons_succ]
        refine wpAnyH_ready (rs := [3]) (by kernel_rfl) (by simp) (AllReadyH.cons (o := ?ooa3) ?hia3 (fun K hK => ?hka3) AllReadyH.nil)
        rotate_left
        case hia3 => (simp only [List.getElem?_toArray, List.getElem?_cons_succ, List.getElem?_cons_zero]; rfl)
        (rw [if_pos (by rfl)]; go_simp; refine (C1 _ (bel_tr HD.out hHeld.2)).mono ?_; rintro e wq2 ⟨rfl, hb⟩; go_wp2_with fail; refine hK.out _ _ (keepOne hb hHeld) (fun hHeld => ?_); clear hK K)
        try simp only [Act.put, List.setIfInBounds_toArray, List.set_cons_zero, List.set_cons_succ]
        refine wpAnyH_ready (rs := [4]) (by kernel_rfl) (by simp) (AllReadyH.cons (o := ?ooa4) ?hia4 (fun K hK => ?hka4) AllReadyH.nil)
        rotate_left
        case hia4 => (simp only [List.getElem?_toArray, List.getElem?_cons_succ, List.getElem?_cons_zero]; rfl)
        (rw [if_pos (by rfl)]; go_simp; refine (C2 _ (bel_tr HD.out hHeld.2)).mono ?_; rintro e wq3 ⟨rfl, hb⟩; go_wp2_with fail; refine hK.out _ _ (keepOne hb hHeld) (fun hHeld => ?_); clear hK K)
        try simp only [Act.put, List.setIfInBounds_toArray, List.set_cons_zero, List.set_cons_succ]
        refine wpAnyH_take (i := 10) (oi := ?ooa10) (v := ?vva10) ?hia10 (by kernel_rfl) ?h3a10 ?h4a10 ?h5a10 ?h6a10 (by assumption) ?h8a10
        case hia10 => (simp only [List.getElem?_toArray, List.getElem?_cons_succ, List.getElem?_cons_zero]; rfl)
        case h3a10 => kernel_rfl
        case h4a10 => kernel_rfl
        case h6a10 => (refine Or.inl ⟨by rfl, ?_⟩; intro w hSw; (try dsimp only at hSw); (go_simp <;> with_reducible rfl))
        case h5a10 => exact fun _ _ _ h => h
        try simp only [Act.put, List.setIfInBounds_toArray, List.set_cons_zero, List.set_cons_succ]
        refine wpAnyH_done (by kernel_rfl) ?_ _
        have B := bel_tr HB.out (And.right (by assumption))
        have D := bel_tr HD.out (And.right (by assumption))
        go_wp2_with fail
        go_roundw
        case rel => exact ⟨k + 1, by omega, by go_num, B, D⟩
        case measure => simp [intOf]; omega
      · obtain rfl : k = xs.length := by omega
        by_cases h5 : t + p ≤ 5000
        · have e5 : decide (5000 < t + p) = false := decide_eq_false (by omega)
          have C1 := fun W hW => CW (t + p) _ (HPER.out h5) (by omega) W hW
          clear CT CW hlt
          go_wp2_with fail
          refine (C1 _ D).mono ?_
          rintro e u ⟨rfl, C⟩
          replace B := bel_tr B C
          clear C
          go_wp2_with fail
          go_ret
          exact ⟨rfl, B⟩
        · have e5 : decide (5000 < t + p) = true := decide_eq_true (by omega)
          clear CT CW hlt
          go_wp2_with fail
          go_ret
          exact ⟨rfl, B⟩

set_option maxRecDepth 100000 in
theorem lifted (os : Os) (started : os.Started) (H : Type) (enc : TypeId × Value → H) :
    ReturnsInHanded {} Try.checked os 5 .any (Rows.fnWhoAtSpec.pre6 enc Try.prog Try.f5 Rows.fnWhoAtRow.domain false) (Rows.fnWhoAtSpec.post enc Try.prog Try.f5 false true false false) := by
  refine returnsInHanded_of_change (C := Try.checked) own started (by kernel_rfl) Try.func5
    (ChangeSpec.witness6 (enc := enc) (C := Try.checked) false ⟨#[], #[.slice none 0 0], []⟩ 8 (by kernel_rfl) (by kernel_rfl) (by kernel_rfl) (by kernel_rfl)) ?_
  intro W base args ds gs before hval0 hW hcnd _
  have hval : ∀ (j : Nat) t v, Try.f5.params[j]? = some t → args[j]? = some v → Value.okWide Try.prog W .any base t v := hval0
  have hW' := hW
  obtain ⟨p, q, hA0, hV, rfl, hfz, hnd⟩ := hW
  have hA : DataW.TrodAll enc Try.prog W 0 (fun _ => true) true Try.f5.params.toList args.toList ds p := hA0
  rw [Try.params5] at hA hval
  obtain ⟨v0, vs0, e0, es0, p0, q0, hargs, rfl, rfl, h0, r0⟩ := trodAll_cons hA
  obtain ⟨rfl, rfl, rfl⟩ := trodAll_nil r0
  obtain rfl : args = #[v0] := by cases args; simp_all
  obtain ⟨rfl, rfl⟩ := trodVars_none hV
  have k0 := h0
  have lt0 : ∀ x ∈ p0, x.block < W.heap.size := by obtain ⟨m, hm⟩ := k0; exact DataW.trod_lt m _ _ _ hm
  obtain ⟨a0, len0, cap0, rfl⟩ := okWide_slice Try.underlying22 (hval 0 22 v0 rfl rfl)
  obtain ⟨z0, w0⟩ : ∃ zs, IsRow .u8 W a0 len0 cap0 zs := by
    obtain ⟨fuel, hf⟩ := h0
    rcases open_ints Try.underlying22 Try.underlying5 (by kernel_rfl) hf with ⟨hcs, _⟩ | ⟨x, l, c, zs, hcs, _, hl, hm, hz, _, hcell, hwz⟩
    · simp [Value.cells] at hcs
      obtain ⟨rfl, rfl, rfl⟩ := hcs
      exact ⟨[], .inl ⟨rfl, rfl, rfl, rfl⟩⟩
    · simp [Value.cells] at hcs
      obtain ⟨rfl, rfl, rfl⟩ := hcs
      exact ⟨zs, .inr ⟨_, rfl, hl, hm, by simpa using hz, hcell, hwz⟩⟩
  clear hA0 hval0
  refine (walk a0 len0 cap0 z0 W w0).mono fun e W' ⟨he, bel⟩ => ?_
  subst he
  exact ⟨_, rfl, _, _, _, [], _, [], hW', trodAll_mk1 (shut_bool Try.underlying4 _), (trodAll_cons_mk (Below.trod laidOut (by kernel_rfl) (of_decide_eq_true (by kernel_rfl)) k0 bel lt0) trodAll_mk0), rfl, bel.frame _, fun h => by cases h⟩

theorem over : Rows.fnWhoAtRow.holds Try.pinned (OpenSpec.ofChange Rows.fnWhoAtSpec) :=
  OpenClaim.holds_of_wide 5 Try.f5 rfl rfl rfl rfl rfl rfl rfl ⟨rfl, rfl, rfl, rfl, rfl⟩ rfl rfl rfl rfl rfl (by kernel_rfl) Try.func5 (by kernel_rfl)
    (of_decide_eq_true (by kernel_rfl)) (by unfold Func.isWrapper; first | (rw [if_pos (by decide +kernel)]; kernel_rfl) | (rw [if_neg (by decide +kernel)]; exact ⟨rfl, rfl⟩))
    (fun os started H enc _ => lifted os started H enc)

end Go.Proofs.Ythkeopkehjkpeaa.fnWhoAt
namespace Go.Proofs.Ythkeopkehjkpeaa
/-- the statement -/
theorem fnWhoAt_holds : Rows.FnWhoAtSaid := fnWhoAt.over
end Go.Proofs.Ythkeopkehjkpeaa
