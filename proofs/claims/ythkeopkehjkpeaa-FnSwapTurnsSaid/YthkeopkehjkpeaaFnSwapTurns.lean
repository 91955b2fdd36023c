/- For every input the law answers true, and its argument reads afterwards as before: exchanges are undone. No condition. -/
import Derived.Test.YthkeopkehjkpeaaRows
import Derived.Test.YthkeopkehjkpeaaDrawTm
import Derived.Test.YthkeopkehjkpeaaSwapL
import Derived.Test.YthkeopkehjkpeaaEqT
import Derived.WalkKit
import Derived.Deep.RegionHeld3
import Derived.ProofKit
import Derived.OpenShut
import Derived.ShutString
import Derived.ChangeOld
import Derived.Below
import Derived.Lib.SmallJoins
namespace Go.Proofs.Ythkeopkehjkpeaa.fnSwapTurns
open Go.ChangeShapes Go.WideShapes Go.ChangeAt Go.RowKit Go.Joins
open Go.ChangeMaps (open_string shut_string)
set_option linter.unusedVariables false

theorem own : ownKnob Try.prog.godebug = none := by kernel_rfl
theorem laidOut : laidOutB Try.prog = true := by kernel_rfl

set_option maxRecDepth 100000 in
set_option maxHeartbeats 6000000 in
theorem walk (a0 : Option Addr) (len0 cap0 : Nat) (z0 : List Int) (w : World) (w0 : IsRow .u8 w a0 len0 cap0 z0) :
    Calls Try.prog 12 #[.slice a0 len0 cap0] w fun e w' => e = .returned (.bool true) ∧ Below w.heap.size w w' := by
  by_cases big : (1048576 : Int) < (len0 : Int)
  · go_enter Try.func12, Try.ntmps12
    go_wp2
    go_ret
    exact ⟨rfl, Below.refl _ _⟩
  go_enter Try.func12, Try.ntmps12
  go_wp2_with fail
  refine (drawSwapTurns a0 len0 cap0 z0 _ w0).mono ?_
  rintro e u1 ⟨b, cp, xs, i, k, rfl, hl6, hlc, hi, hz, i0, i1, k0, k1, B⟩
  clear w0 big
  have n1 : xs.length ≤ 1048576 := by omega
  have HI := Lib.hid hi
  have HZ := Lib.hid hz
  have D := Below.refl u1.heap.size u1
  clear hi hz
  have CI := iSwap b cp xs i k u1 HI.out n1 hlc
  have CS : ∀ W, Below u1.heap.size u1 W → Calls Try.prog 42 #[.slice b xs.length cp, .int .i64 i, .int .i64 k] W (OutTn W (swB xs i k) (swL xs i k)) := fun W hW => sSwap b cp xs i k W (tn_below HI.out hW) n1 hlc
  cases hv : swB xs i k with
  | false =>
    rw [hv] at CI CS
    go_wp2_with fail
    refine CI.mono ?_
    rintro e u ⟨he, _, C⟩
    obtain rfl := he rfl
    replace B := bel_tr B C
    replace D := bel_tr D C
    clear C he
    go_wp2_with fail
    refine (CS _ D).mono ?_
    rintro e u ⟨he, _, C⟩
    obtain rfl := he rfl
    replace B := bel_tr B C
    replace D := bel_tr D C
    clear C he
    go_wp2_with fail
    refine (eqTn none none 0 0 [] _ (.inl rfl) (.inl rfl) (by decide)).mono ?_
    rintro e u ⟨rfl, C⟩
    replace B := bel_tr B C
    replace D := bel_tr D C
    clear C
    go_wp2_with fail
    refine (CS _ D).mono ?_
    rintro e u ⟨he, _, C⟩
    obtain rfl := he rfl
    replace B := bel_tr B C
    replace D := bel_tr D C
    clear C he
    go_wp2_with fail
    refine (eqTn none none 0 0 [] _ (.inl rfl) (.inl rfl) (by decide)).mono ?_
    rintro e u ⟨rfl, C⟩
    replace B := bel_tr B C
    replace D := bel_tr D C
    clear C
    go_wp2_with fail
    go_ret
    exact ⟨rfl, B⟩
  | true =>
    obtain ⟨a, c, rfl, rfl, ha, hc, ok, hL⟩ := sw_yes hv
    rw [hv, hL] at CI CS
    have hvo := swN_vt ok ha hc
    have hback := swN_back ha hc
    have hsw := sw_of hvo (a := c) (b := a) (by rw [swN_len]; exact hc) (by rw [swN_len]; exact ha)
    have hsl : swL (swN xs a c) (c : Int) (a : Int) = xs := hback
    have hsum := swN_sum ha hc
    have hown := fun q => swN_own ha hc q
    obtain ⟨l1, l24, _, s0, s1⟩ := vt_is ok
    have hll := swN_len xs a c
    have hb1 : ∀ q : Int, hoursV xs q 0 (sumT xs) = ownS xs q := fun q => by
      have := hours_per (o := q) ok (Int.le_refl 0) (by omega)
      rwa [Int.zero_add] at this
    have hb2 : ∀ q : Int, hoursV (swN xs a c) q 0 (sumT xs) = ownS xs q := fun q => by
      have := hours_per (o := q) hvo (Int.le_refl 0) (by omega)
      rw [Int.zero_add, hown, hsum] at this; exact this
    have hp1 : perV xs = sumT xs := per_val ok
    have hp2 : perV (swN xs a c) = sumT xs := (per_val hvo).trans hsum
    have ho := vt_mem ok _ (tn_mem ha)
    clear hown hsum hback hL hv hvo ok
    generalize swN xs a c = L at *
    generalize sumT xs = p at s0 s1 hb1 hb2 hp1 hp2
    have HSW := Lib.hid hsw
    have HSL := Lib.hid hsl
    have HB1 := Lib.hid hb1
    have HB2 := Lib.hid hb2
    have HP1 := Lib.hid hp1
    have HP2 := Lib.hid hp2
    have HLL := Lib.hid hll
    clear hsw hsl hb1 hb2 hp1 hp2
    have n2 : L.length ≤ 1048576 := by omega
    have l1' : 1 ≤ L.length := by omega
    have ax : (a : Int) < (xs.length : Int) := by omega
    have ax0 : (0 : Int) ≤ (a : Int) := by omega
    clear hll
    go_wp2_with fail
    refine CI.mono ?_
    rintro e UM ⟨_, he, C⟩
    obtain ⟨g, co, rfl, hg, hF, hco⟩ := he rfl
    have HI2 := Lib.hid (tn_below (tn_below HI.out D) C)
    replace B := bel_tr B C
    replace D := bel_tr D C
    have E := Below.refl UM.heap.size UM
    have HO := Lib.hid hF.tn
    clear C he hF hg CI
    go_wp2_with fail
    refine (CS _ D).mono ?_
    rintro e u ⟨_, he, C⟩
    obtain ⟨g2, co2, rfl, _, hF2, _⟩ := he rfl
    replace B := bel_tr B C
    replace D := bel_tr D C
    replace E := bel_tr E C
    have hO2 := hF2.tn
    clear C he hF2 CS
    have l0 : ((L.length : Int) == 0) = false := by simpa using (show (L.length : Int) ≠ 0 by omega)
    go_wp2_with fail
    refine (eqTn _ _ co co2 L _ (tn_below HO.out E) hO2 n2).mono ?_
    rintro e u ⟨rfl, C⟩
    replace B := bel_tr B C
    replace E := bel_tr E C
    clear C hO2 D
    have CP1 : ∀ W, Below UM.heap.size UM W → Calls Try.prog 17 #[.slice b xs.length cp] W fun e w' => e = .returned (.int .i64 p) ∧ Below W.heap.size W w' := fun W hW => by
      have := iPeriodOf b cp xs W (tn_below HI2.out hW) n1 hlc
      rw [HP1.out] at this; exact this
    have CP2 : ∀ W, Below UM.heap.size UM W → Calls Try.prog 17 #[.slice (some ⟨g, 0, none⟩) L.length co] W fun e w' => e = .returned (.int .i64 p) ∧ Below W.heap.size W w' := fun W hW => by
      have := iPeriodOf _ co L W (tn_below HO.out hW) n2 hco
      rw [HP2.out] at this; exact this
    have CM : ∀ W, Below UM.heap.size UM W → Calls Try.prog 40 #[.slice (some ⟨g, 0, none⟩) L.length co, .int .i64 (c : Int), .int .i64 (a : Int)] W (OutTn W true xs) := fun W hW => by
      have := iSwap (some ⟨g, 0, none⟩) co L (c : Int) (a : Int) W (tn_below HO.out hW) n2 hco
      rw [HSW.out, HSL.out] at this; exact this
    have hcl : IsTn UM b xs := HI2.out
    rcases hcl with rfl | ⟨gb, ob, rfl, hcc⟩
    · simp at l1
    have HCC := Lib.hid hcc
    clear hcc
    go_wp2_with fail
    refine (CP1 _ E).mono ?_
    rintro e UN ⟨rfl, C⟩
    replace B := bel_tr B C
    replace E := bel_tr E C
    clear C CP1
    obtain ⟨c0, c1⟩ := tn_at HCC.out E ha
    have q1 := HB1.out (xs.getD a tn0).1
    have q2 := HB2.out (xs.getD a tn0).1
    have C1 : ∀ W, Below UM.heap.size UM W → Calls Try.prog 20 #[.slice (some ⟨gb, ob, none⟩) xs.length cp, .int .i64 (xs.getD a tn0).1, .int .i64 0, .int .i64 p] W fun e w' => e = .returned (.int .i64 (ownS xs (xs.getD a tn0).1)) ∧ Below W.heap.size W w' := fun W hW => by
      have := iHoursIn _ cp xs (xs.getD a tn0).1 0 p W (tn_below HI2.out hW) n1 hlc (wf_small (by omega)) (wf_small (by omega)) (wf_small (by omega))
      rw [q1] at this; exact this
    have C2 : ∀ W, Below UM.heap.size UM W → Calls Try.prog 20 #[.slice (some ⟨g, 0, none⟩) L.length co, .int .i64 (xs.getD a tn0).1, .int .i64 0, .int .i64 p] W fun e w' => e = .returned (.int .i64 (ownS xs (xs.getD a tn0).1)) ∧ Below W.heap.size W w' := fun W hW => by
      have := iHoursIn _ co L (xs.getD a tn0).1 0 p W (tn_below HO.out hW) n2 hco (wf_small (by omega)) (wf_small (by omega)) (wf_small (by omega))
      rw [q2] at this; exact this
    clear q1 q2 ho c1
    generalize ownS xs (xs.getD a tn0).1 = hw at C1 C2
    generalize (xs.getD a tn0).1 = x at c0 C1 C2
    go_wp2_with fail
    have HB := Lib.hid B
    have HE := Lib.hid E
    clear B E
    refine wp_region_held_drew (S := (fun w' => w'.cell? ⟨gb, ob + a * 2, none⟩ = some (.int .i64 x) ∧ Below UN.heap.size UN w')) (by kernel_rfl) ?_ (fun hHeld => ?_)
    · exact ⟨c0, (Below.refl _ _).drew⟩
    refine wpAnyH_take (i := 0) (oi := ?ood0) (v := ?vvd0) ?hid0 (by kernel_rfl) ?h3d0 ?h4d0 ?h5d0 ?h6d0 (by assumption) ?h8d0
    case hid0 => (simp only [List.getElem?_toArray, List.getElem?_cons_succ, List.getElem?_cons_zero]; rfl)
    case h3d0 => kernel_rfl
    case h4d0 => kernel_rfl
    case h6d0 => (refine Or.inl ⟨by rfl, ?_⟩; intro w hSw; (try dsimp only at hSw); (go_simp <;> with_reducible rfl))
    case h5d0 => exact fun _ _ _ h => h
    try simp only [Act.put, List.setIfInBounds_toArray, List.set_cons_zero, List.set_cons_succ]
    refine wpAnyH_take (i := 1) (oi := ?ood1) (v := ?vvd1) ?hid1 (by kernel_rfl) ?h3d1 ?h4d1 ?h5d1 ?h6d1 (by assumption) ?h8d1
    case hid1 => (simp only [List.getElem?_toArray, List.getElem?_cons_succ, List.getElem?_cons_zero]; rfl)
    case h3d1 => kernel_rfl
    case h4d1 => kernel_rfl
    case h6d1 => (refine Or.inl ⟨by rfl, ?_⟩; intro w hSw; (try dsimp only at hSw); (go_simp <;> with_reducible rfl))
    case h5d1 => exact fun _ _ _ h => h
    try simp only [Act.put, List.setIfInBounds_toArray, List.set_cons_zero, List.set_cons_succ]
    refine wpAnyH_take (i := 2) (oi := ?ood2) (v := ?vvd2) ?hid2 (by kernel_rfl) ?h3d2 ?h4d2 ?h5d2 ?h6d2 (by assumption) ?h8d2
    case hid2 => (simp only [List.getElem?_toArray, List.getElem?_cons_succ, List.getElem?_cons_zero]; rfl)
    case h3d2 => kernel_rfl
    case h4d2 => kernel_rfl
    case h6d2 => (refine Or.inl ⟨by rfl, ?_⟩; intro w hSw; (try dsimp only at hSw); (go_simp <;> with_reducible rfl))
    case h5d2 => exact fun _ _ _ h => h
    try simp only [Act.put, List.setIfInBounds_toArray, List.set_cons_zero, List.set_cons_succ]
    refine wpAnyH_take (i := 4) (oi := ?ood4) (v := ?vvd4) ?hid4 (by kernel_rfl) ?h3d4 ?h4d4 ?h5d4 ?h6d4 (by assumption) ?h8d4
    case hid4 => (simp only [List.getElem?_toArray, List.getElem?_cons_succ, List.getElem?_cons_zero]; rfl)
    case h3d4 => kernel_rfl
    case h4d4 => kernel_rfl
    case h6d4 => (refine Or.inl ⟨by rfl, ?_⟩; intro w hSw; (try dsimp only at hSw); (go_simp <;> with_reducible rfl))
    case h5d4 => exact fun _ _ _ h => h
    try simp only [Act.put, List.setIfInBounds_toArray, List.set_cons_zero, List.set_cons_succ]
    refine wpAnyH_ready (rs := [3]) (by kernel_rfl) (by simp) (AllReadyH.cons (o := ?ood3) ?hid3 (fun K hK => ?hkd3) AllReadyH.nil)
    rotate_left
    case hid3 => (simp only [List.getElem?_toArray, List.getElem?_cons_succ, List.getElem?_cons_zero]; rfl)
    (rw [if_pos (by rfl)]; go_simp; refine (CM _ (bel_tr HE.out hHeld.2)).mono ?_; rintro e wq2 ⟨_, he, hb⟩; obtain ⟨g3, co3, rfl, _, hF3, _⟩ := he rfl; have hO3 := Lib.hid hF3.tn; clear he hF3; go_wp2_with fail; refine hK.out _ _ (keepOne hb hHeld) (fun hHeld => ?_); clear hK K)
    try simp only [Act.put, List.setIfInBounds_toArray, List.set_cons_zero, List.set_cons_succ]
    refine wpAnyH_ready (rs := [5]) (by kernel_rfl) (by simp) (AllReadyH.cons (o := ?ood5) ?hid5 (fun K hK => ?hkd5) AllReadyH.nil)
    rotate_left
    case hid5 => (simp only [List.getElem?_toArray, List.getElem?_cons_succ, List.getElem?_cons_zero]; rfl)
    (rw [if_pos (by rfl)]; go_simp; refine (eqTn _ _ co3 cp xs _ hO3.out (tn_below HI2.out (bel_tr HE.out hHeld.2)) n1).mono ?_; rintro e wq3 ⟨rfl, hb⟩; go_wp2_with fail; refine hK.out _ _ (keepOne hb hHeld) (fun hHeld => ?_); clear hK K)
    try simp only [Act.put, List.setIfInBounds_toArray, List.set_cons_zero, List.set_cons_succ]
    refine wpAnyH_take (i := 6) (oi := ?ood6) (v := ?vvd6) ?hid6 (by kernel_rfl) ?h3d6 ?h4d6 ?h5d6 ?h6d6 (by assumption) ?h8d6
    case hid6 => (simp only [List.getElem?_toArray, List.getElem?_cons_succ, List.getElem?_cons_zero]; rfl)
    case h3d6 => kernel_rfl
    case h4d6 => kernel_rfl
    case h6d6 => (refine Or.inl ⟨by rfl, ?_⟩; intro w hSw; (try dsimp only at hSw); (go_simp <;> with_reducible rfl))
    case h5d6 => exact fun _ _ _ h => h
    try simp only [Act.put, List.setIfInBounds_toArray, List.set_cons_zero, List.set_cons_succ]
    refine wpAnyH_take (i := 7) (oi := ?ood7) (v := ?vvd7) ?hid7 (by kernel_rfl) ?h3d7 ?h4d7 ?h5d7 ?h6d7 (by assumption) ?h8d7
    case hid7 => (simp only [List.getElem?_toArray, List.getElem?_cons_succ, List.getElem?_cons_zero]; rfl)
    case h3d7 => kernel_rfl
    case h4d7 => kernel_rfl
    case h6d7 => (refine Or.inl ⟨by rfl, ?_⟩; intro w hSw; (try dsimp only at hSw); (go_simp <;> with_reducible rfl))
    case h5d7 => exact fun _ _ _ h => h
    try simp only [Act.put, List.setIfInBounds_toArray, List.set_cons_zero, List.set_cons_succ]
    refine wpAnyH_take (i := 9) (oi := ?ood9) (v := ?vvd9) ?hid9 (by kernel_rfl) ?h3d9 ?h4d9 ?h5d9 ?h6d9 (by assumption) ?h8d9
    case hid9 => (simp only [List.getElem?_toArray, List.getElem?_cons_succ, List.getElem?_cons_zero]; rfl)
    case h3d9 => kernel_rfl
    case h4d9 => kernel_rfl
    case h6d9 => (refine Or.inl ⟨by rfl, ?_⟩; intro w hSw; (try dsimp only at hSw); (go_simp <;> with_reducible rfl))
    case h5d9 => exact fun _ _ _ h => h
    try simp only [Act.put, List.setIfInBounds_toArray, List.set_cons_zero, List.set_cons_succ]
    refine wpAnyH_ready (rs := [8]) (by kernel_rfl) (by simp) (AllReadyH.cons (o := ?ood8) ?hid8 (fun K hK => ?hkd8) AllReadyH.nil)
    rotate_left
    case hid8 => (simp only [List.getElem?_toArray, List.getElem?_cons_succ, List.getElem?_cons_zero]; rfl)
    (rw [if_pos (by rfl)]; go_simp; refine (CP2 _ (bel_tr HE.out hHeld.2)).mono ?_; rintro e wq4 ⟨rfl, hb⟩; go_wp2_with fail; refine hK.out _ _ (keepOne hb hHeld) (fun hHeld => ?_); clear hK K)
    try simp only [Act.put, List.setIfInBounds_toArray, List.set_cons_zero, List.set_cons_succ]
    refine wpAnyH_take (i := 10) (oi := ?ood10) (v := ?vvd10) ?hid10 (by kernel_rfl) ?h3d10 ?h4d10 ?h5d10 ?h6d10 (by assumption) ?h8d10
    case hid10 => (simp only [List.getElem?_toArray, List.getElem?_cons_succ, List.getElem?_cons_zero]; rfl)
    case h3d10 => kernel_rfl
    case h4d10 => kernel_rfl
    case h6d10 => (refine Or.inl ⟨by rfl, ?_⟩; intro w hSw; (try dsimp only at hSw); (go_simp <;> with_reducible rfl))
    case h5d10 => exact fun _ _ _ h => h
    try simp only [Act.put, List.setIfInBounds_toArray, List.set_cons_zero, List.set_cons_succ]
    refine wpAnyH_take (i := 11) (oi := ?ood11) (v := ?vvd11) ?hid11 (by kernel_rfl) ?h3d11 ?h4d11 ?h5d11 ?h6d11 (by assumption) ?h8d11
    case hid11 => (simp only [List.getElem?_toArray, List.getElem?_cons_succ, List.getElem?_cons_zero]; rfl)
    case h3d11 => kernel_rfl
    case h4d11 => kernel_rfl
    case h6d11 => (refine Or.inl ⟨by rfl, ?_⟩; intro w hSw; (try dsimp only at hSw); (go_simp <;> with_reducible rfl))
    case h5d11 => exact fun _ _ _ h => h
    try simp only [Act.put, List.setIfInBounds_toArray, List.set_cons_zero, List.set_cons_succ]
    refine wpAnyH_take (i := 12) (oi := ?ood12) (v := ?vvd12) ?hid12 (by kernel_rfl) ?h3d12 ?h4d12 ?h5d12 ?h6d12 (by assumption) ?h8d12
    case hid12 => (simp only [List.getElem?_toArray, List.getElem?_cons_succ, List.getElem?_cons_zero]; rfl)
    case h3d12 => kernel_rfl
    case h4d12 => kernel_rfl
    case h6d12 => (refine Or.inl ⟨by rfl, ?_⟩; intro w hSw; (try dsimp only at hSw); (go_simp <;> with_reducible rfl))
    case h5d12 => exact fun _ _ _ h => h
    try simp only [Act.put, List.setIfInBounds_toArray, List.set_cons_zero, List.set_cons_succ]
    refine wpAnyH_take (i := 13) (oi := ?ood13) (v := ?vvd13) ?hid13 (by kernel_rfl) ?h3d13 ?h4d13 ?h5d13 ?h6d13 (by assumption) ?h8d13
    case hid13 => (simp only [List.getElem?_toArray, List.getElem?_cons_succ, List.getElem?_cons_zero]; rfl)
    case h3d13 => kernel_rfl
    case h4d13 => kernel_rfl
    case h6d13 => (refine Or.inl ⟨by rfl, ?_⟩; intro w hSw; (try dsimp only at hSw); (go_simp <;> with_reducible rfl))
    case h5d13 => exact fun _ _ _ h => h
    try simp only [Act.put, List.setIfInBounds_toArray, List.set_cons_zero, List.set_cons_succ]
    refine wpAnyH_take (i := 14) (oi := ?ood14) (v := ?vvd14) ?hid14 (by kernel_rfl) ?h3d14 ?h4d14 ?h5d14 ?h6d14 (by assumption) ?h8d14
    case hid14 => (simp only [List.getElem?_toArray, List.getElem?_cons_succ, List.getElem?_cons_zero]; rfl)
    case h3d14 => kernel_rfl
    case h4d14 => kernel_rfl
    case h6d14 => (refine Or.inl ⟨by rfl, ?_⟩; intro w hSw; (try dsimp only at hSw); (go_simp <;> with_reducible rfl))
    case h5d14 => exact fun _ _ _ h => h
    try simp only [Act.put, List.setIfInBounds_toArray, List.set_cons_zero, List.set_cons_succ]
    refine wpAnyH_take (i := 15) (oi := ?ood15) (v := ?vvd15) ?hid15 (by kernel_rfl) ?h3d15 ?h4d15 ?h5d15 ?h6d15 (by assumption) ?h8d15
    case hid15 => (simp only [List.getElem?_toArray, List.getElem?_cons_succ, List.getElem?_cons_zero]; rfl)
    case h3d15 => kernel_rfl
    case h4d15 => kernel_rfl
    case h6d15 => (refine Or.inl ⟨by rfl, ?_⟩; intro w hSw; (try dsimp only at hSw); (go_simp <;> with_reducible rfl))
    case h5d15 => exact fun _ _ _ h => h
    try simp only [Act.put, List.setIfInBounds_toArray, List.set_cons_zero, List.set_cons_succ]
    refine wpAnyH_take (i := 16) (oi := ?ood16) (v := ?vvd16) ?hid16 (by kernel_rfl) ?h3d16 ?h4d16 ?h5d16 ?h6d16 (by assumption) ?h8d16
    case hid16 => (simp only [List.getElem?_toArray, List.getElem?_cons_succ, List.getElem?_cons_zero]; rfl)
    case h3d16 => kernel_rfl
    case h4d16 => kernel_rfl
    case h6d16 => (refine Or.inl ⟨by rfl, ?_⟩; intro w hSw; (try dsimp only at hSw); (go_simp <;> with_reducible rfl))
    case h5d16 => exact fun _ _ _ h => h
    try simp only [Act.put, List.setIfInBounds_toArray, List.set_cons_zero, List.set_cons_succ]
    refine wpAnyH_take (i := 17) (oi := ?ood17) (v := ?vvd17) ?hid17 (by kernel_rfl) ?h3d17 ?h4d17 ?h5d17 ?h6d17 (by assumption) ?h8d17
    case hid17 => (simp only [List.getElem?_toArray, List.getElem?_cons_succ, List.getElem?_cons_zero]; rfl)
    case h3d17 => kernel_rfl
    case h4d17 => kernel_rfl
    case h6d17 => (refine Or.inl ⟨by rfl, ?_⟩; intro w hSw; (try dsimp only at hSw); (go_simp <;> with_reducible rfl))
    case h5d17 => exact fun _ _ _ h => h
    try simp only [Act.put, List.setIfInBounds_toArray, List.set_cons_zero, List.set_cons_succ]
    refine wpAnyH_take (i := 18) (oi := ?ood18) (v := ?vvd18) ?hid18 (by kernel_rfl) ?h3d18 ?h4d18 ?h5d18 ?h6d18 (by assumption) ?h8d18
    case hid18 => (simp only [List.getElem?_toArray, List.getElem?_cons_succ, List.getElem?_cons_zero]; rfl)
    case h3d18 => kernel_rfl
    case h4d18 => kernel_rfl
    case h6d18 => (refine Or.inl ⟨by rfl, ?_⟩; intro w hSw; (try dsimp only at hSw); (go_simp <;> with_reducible rfl))
    case h5d18 => exact fun _ _ _ h => h
    try simp only [Act.put, List.setIfInBounds_toArray, List.set_cons_zero, List.set_cons_succ]
    refine wpAnyH_take (i := 19) (oi := ?ood19) (v := ?vvd19) ?hid19 (by kernel_rfl) ?h3d19 ?h4d19 ?h5d19 ?h6d19 (by assumption) ?h8d19
    case hid19 => (simp only [List.getElem?_toArray, List.getElem?_cons_succ, List.getElem?_cons_zero]; rfl)
    case h3d19 => kernel_rfl
    case h4d19 => kernel_rfl
    case h6d19 => (refine Or.inl ⟨by rfl, ?_⟩; intro w hSw; (try dsimp only at hSw); (go_simp <;> with_reducible rfl))
    case h5d19 => exact fun _ _ _ h => h
    try simp only [Act.put, List.setIfInBounds_toArray, List.set_cons_zero, List.set_cons_succ]
    refine wpAnyH_take (i := 21) (oi := ?ood21) (v := ?vvd21) ?hid21 (by kernel_rfl) ?h3d21 ?h4d21 ?h5d21 ?h6d21 (by assumption) ?h8d21
    case hid21 => (simp only [List.getElem?_toArray, List.getElem?_cons_succ, List.getElem?_cons_zero]; rfl)
    case h3d21 => kernel_rfl
    case h4d21 => kernel_rfl
    case h6d21 => (refine Or.inl ⟨by rfl, ?_⟩; intro w hSw; (try dsimp only at hSw); (go_simp <;> with_reducible rfl))
    case h5d21 => exact fun _ _ _ h => h
    try simp only [Act.put, List.setIfInBounds_toArray, List.set_cons_zero, List.set_cons_succ]
    refine wpAnyH_take (i := 22) (oi := ?ood22) (v := ?vvd22) ?hid22 (by kernel_rfl) ?h3d22 ?h4d22 ?h5d22 ?h6d22 (by assumption) ?h8d22
    case hid22 => (simp only [List.getElem?_toArray, List.getElem?_cons_succ, List.getElem?_cons_zero]; rfl)
    case h3d22 => kernel_rfl
    case h4d22 => kernel_rfl
    case h6d22 => (refine Or.inl ⟨by rfl, ?_⟩; intro w hSw; (try dsimp only at hSw); (go_simp <;> with_reducible rfl))
    case h5d22 => exact fun _ _ _ h => h
    try simp only [Act.put, List.setIfInBounds_toArray, List.set_cons_zero, List.set_cons_succ]
    refine wpAnyH_take (i := 23) (oi := ?ood23) (v := ?vvd23) ?hid23 (by kernel_rfl) ?h3d23 ?h4d23 ?h5d23 ?h6d23 (by assumption) ?h8d23
    case hid23 => (simp only [List.getElem?_toArray, List.getElem?_cons_succ, List.getElem?_cons_zero]; rfl)
    case h3d23 => kernel_rfl
    case h4d23 => kernel_rfl
    case h6d23 => (refine Or.inl ⟨by rfl, ?_⟩; intro w hSw; (try dsimp only at hSw); (go_simp <;> with_reducible rfl))
    case h5d23 => exact fun _ _ _ h => h
    try simp only [Act.put, List.setIfInBounds_toArray, List.set_cons_zero, List.set_cons_succ]
    refine wpAnyH_take (i := 24) (oi := ?ood24) (v := ?vvd24) ?hid24 (by kernel_rfl) ?h3d24 ?h4d24 ?h5d24 ?h6d24 (by assumption) ?h8d24
    case hid24 => (simp only [List.getElem?_toArray, List.getElem?_cons_succ, List.getElem?_cons_zero]; rfl)
    case h3d24 => kernel_rfl
    case h4d24 => kernel_rfl
    case h6d24 => (refine Or.inl ⟨by rfl, ?_⟩; intro w hSw; (try dsimp only at hSw); (go_simp <;> with_reducible rfl))
    case h5d24 => exact fun _ _ _ h => h
    try simp only [Act.put, List.setIfInBounds_toArray, List.set_cons_zero, List.set_cons_succ]
    refine wpAnyH_take (i := 25) (oi := ?ood25) (v := ?vvd25) ?hid25 (by kernel_rfl) ?h3d25 ?h4d25 ?h5d25 ?h6d25 (by assumption) ?h8d25
    case hid25 => (simp only [List.getElem?_toArray, List.getElem?_cons_succ, List.getElem?_cons_zero]; rfl)
    case h3d25 => kernel_rfl
    case h4d25 => kernel_rfl
    case h6d25 => (refine Or.inl ⟨by rfl, ?_⟩; intro w hSw; (try dsimp only at hSw); (go_simp <;> with_reducible rfl))
    case h5d25 => exact fun _ _ _ h => h
    try simp only [Act.put, List.setIfInBounds_toArray, List.set_cons_zero, List.set_cons_succ]
    refine wpAnyH_take (i := 26) (oi := ?ood26) (v := ?vvd26) ?hid26 (by kernel_rfl) ?h3d26 ?h4d26 ?h5d26 ?h6d26 (by assumption) ?h8d26
    case hid26 => (simp only [List.getElem?_toArray, List.getElem?_cons_succ, List.getElem?_cons_zero]; rfl)
    case h3d26 => kernel_rfl
    case h4d26 => kernel_rfl
    case h6d26 => (refine Or.inl ⟨by rfl, ?_⟩; intro w hSw; (try dsimp only at hSw); (go_simp <;> with_reducible rfl))
    case h5d26 => exact fun _ _ _ h => h
    try simp only [Act.put, List.setIfInBounds_toArray, List.set_cons_zero, List.set_cons_succ]
    refine wpAnyH_take (i := 27) (oi := ?ood27) (v := ?vvd27) ?hid27 (by kernel_rfl) ?h3d27 ?h4d27 ?h5d27 ?h6d27 (by assumption) ?h8d27
    case hid27 => (simp only [List.getElem?_toArray, List.getElem?_cons_succ, List.getElem?_cons_zero]; rfl)
    case h3d27 => kernel_rfl
    case h4d27 => kernel_rfl
    case h6d27 => (refine Or.inl ⟨by rfl, ?_⟩; intro w hSw; (try dsimp only at hSw); (go_simp <;> with_reducible rfl))
    case h5d27 => exact fun _ _ _ h => h
    try simp only [Act.put, List.setIfInBounds_toArray, List.set_cons_zero, List.set_cons_succ]
    refine wpAnyH_ready (rs := [20]) (by kernel_rfl) (by simp) (AllReadyH.cons (o := ?ood20) ?hid20 (fun K hK => ?hkd20) AllReadyH.nil)
    rotate_left
    case hid20 => (simp only [List.getElem?_toArray, List.getElem?_cons_succ, List.getElem?_cons_zero]; rfl)
    (rw [if_pos (by rfl)]; go_simp; refine (C2 _ (bel_tr HE.out hHeld.2)).mono ?_; rintro e wq5 ⟨rfl, hb⟩; go_wp2_with fail; refine hK.out _ _ (keepOne hb hHeld) (fun hHeld => ?_); clear hK K)
    try simp only [Act.put, List.setIfInBounds_toArray, List.set_cons_zero, List.set_cons_succ]
    refine wpAnyH_ready (rs := [28]) (by kernel_rfl) (by simp) (AllReadyH.cons (o := ?ood28) ?hid28 (fun K hK => ?hkd28) AllReadyH.nil)
    rotate_left
    case hid28 => (simp only [List.getElem?_toArray, List.getElem?_cons_succ, List.getElem?_cons_zero]; rfl)
    (rw [if_pos (by rfl)]; go_simp; refine (C1 _ (bel_tr HE.out hHeld.2)).mono ?_; rintro e wq6 ⟨rfl, hb⟩; go_wp2_with fail; refine hK.out _ _ (keepOne hb hHeld) (fun hHeld => ?_); clear hK K)
    try simp only [Act.put, List.setIfInBounds_toArray, List.set_cons_zero, List.set_cons_succ]
    refine wpAnyH_take (i := 29) (oi := ?ood29) (v := ?vvd29) ?hid29 (by kernel_rfl) ?h3d29 ?h4d29 ?h5d29 ?h6d29 (by assumption) ?h8d29
    case hid29 => (simp only [List.getElem?_toArray, List.getElem?_cons_succ, List.getElem?_cons_zero]; rfl)
    case h3d29 => kernel_rfl
    case h4d29 => kernel_rfl
    case h6d29 => (refine Or.inl ⟨by rfl, ?_⟩; intro w hSw; (try dsimp only at hSw); (go_simp <;> with_reducible rfl))
    case h5d29 => exact fun _ _ _ h => h
    try simp only [Act.put, List.setIfInBounds_toArray, List.set_cons_zero, List.set_cons_succ]
    refine wpAnyH_take (i := 30) (oi := ?ood30) (v := ?vvd30) ?hid30 (by kernel_rfl) ?h3d30 ?h4d30 ?h5d30 ?h6d30 (by assumption) ?h8d30
    case hid30 => (simp only [List.getElem?_toArray, List.getElem?_cons_succ, List.getElem?_cons_zero]; rfl)
    case h3d30 => kernel_rfl
    case h4d30 => kernel_rfl
    case h6d30 => (refine Or.inl ⟨by rfl, ?_⟩; intro w hSw; (try dsimp only at hSw); (go_simp <;> with_reducible rfl))
    case h5d30 => exact fun _ _ _ h => h
    try simp only [Act.put, List.setIfInBounds_toArray, List.set_cons_zero, List.set_cons_succ]
    refine wpAnyH_take (i := 31) (oi := ?ood31) (v := ?vvd31) ?hid31 (by kernel_rfl) ?h3d31 ?h4d31 ?h5d31 ?h6d31 (by assumption) ?h8d31
    case hid31 => (simp only [List.getElem?_toArray, List.getElem?_cons_succ, List.getElem?_cons_zero]; rfl)
    case h3d31 => kernel_rfl
    case h4d31 => kernel_rfl
    case h6d31 => (refine Or.inl ⟨by rfl, ?_⟩; intro w hSw; (try dsimp only at hSw); (go_simp <;> with_reducible rfl))
    case h5d31 => exact fun _ _ _ h => h
    try simp only [Act.put, List.setIfInBounds_toArray, List.set_cons_zero, List.set_cons_succ]
    refine wpAnyH_done (by kernel_rfl) ?_ _
    have B := bel_tr HB.out (And.right (by assumption))
    go_wp2_with fail
    go_ret
    exact ⟨rfl, B⟩

set_option maxRecDepth 100000 in
theorem lifted (os : Os) (started : os.Started) (H : Type) (enc : TypeId × Value → H) :
    ReturnsInHanded {} Try.checked os 12 .any (Rows.fnSwapTurnsSpec.pre6 enc Try.prog Try.f12 Rows.fnSwapTurnsRow.domain false) (Rows.fnSwapTurnsSpec.post enc Try.prog Try.f12 false true false false) := by
  refine returnsInHanded_of_change (C := Try.checked) own started (by kernel_rfl) Try.func12
    (ChangeSpec.witness6 (enc := enc) (C := Try.checked) false ⟨#[], #[.slice none 0 0], []⟩ 8 (by kernel_rfl) (by kernel_rfl) (by kernel_rfl) (by kernel_rfl)) ?_
  intro W base args ds gs before hval0 hW hcnd _
  have hval : ∀ (j : Nat) t v, Try.f12.params[j]? = some t → args[j]? = some v → Value.okWide Try.prog W .any base t v := hval0
  have hW' := hW
  obtain ⟨p, q, hA0, hV, rfl, hfz, hnd⟩ := hW
  have hA : DataW.TrodAll enc Try.prog W 0 (fun _ => true) true Try.f12.params.toList args.toList ds p := hA0
  rw [Try.params12] at hA hval
  obtain ⟨v0, vs0, e0, es0, p0, q0, hargs, rfl, rfl, h0, r0⟩ := trodAll_cons hA
  obtain ⟨rfl, rfl, rfl⟩ := trodAll_nil r0
  obtain rfl : args = #[v0] := by cases args; simp_all
  obtain ⟨rfl, rfl⟩ := trodVars_none hV
  have k0 := h0
  have lt0 : ∀ x ∈ p0, x.block < W.heap.size := by obtain ⟨m, hm⟩ := k0; exact DataW.trod_lt m _ _ _ hm
  obtain ⟨a0, len0, cap0, rfl⟩ := okWide_slice Try.underlying22 (hval 0 22 v0 rfl rfl)
  obtain ⟨z0, w0⟩ : ∃ zs, IsRow .u8 W a0 len0 cap0 zs := by
    obtain ⟨fuel, hf⟩ := h0
    rcases open_ints Try.underlying22 Try.underlying5 (by kernel_rfl) hf with ⟨hcs, _⟩ | ⟨x, l, c, zs, hcs, _, hl, hm, hz, _, hcell, hwz⟩
    · simp [Value.cells] at hcs
      obtain ⟨rfl, rfl, rfl⟩ := hcs
      exact ⟨[], .inl ⟨rfl, rfl, rfl, rfl⟩⟩
    · simp [Value.cells] at hcs
      obtain ⟨rfl, rfl, rfl⟩ := hcs
      exact ⟨zs, .inr ⟨_, rfl, hl, hm, by simpa using hz, hcell, hwz⟩⟩
  clear hA0 hval0
  refine (walk a0 len0 cap0 z0 W w0).mono fun e W' ⟨he, bel⟩ => ?_
  subst he
  exact ⟨_, rfl, _, _, _, [], _, [], hW', trodAll_mk1 (shut_bool Try.underlying4 _), (trodAll_cons_mk (Below.trod laidOut (by kernel_rfl) (of_decide_eq_true (by kernel_rfl)) k0 bel lt0) trodAll_mk0), rfl, bel.frame _, fun h => by cases h⟩

theorem over : Rows.fnSwapTurnsRow.holds Try.pinned (OpenSpec.ofChange Rows.fnSwapTurnsSpec) :=
  OpenClaim.holds_of_wide 12 Try.f12 rfl rfl rfl rfl rfl rfl rfl ⟨rfl, rfl, rfl, rfl, rfl⟩ rfl rfl rfl rfl rfl (by kernel_rfl) Try.func12 (by kernel_rfl)
    (of_decide_eq_true (by kernel_rfl)) (by unfold Func.isWrapper; first | (rw [if_pos (by decide +kernel)]; kernel_rfl) | (rw [if_neg (by decide +kernel)]; exact ⟨rfl, rfl⟩))
    (fun os started H enc _ => lifted os started H enc)

end Go.Proofs.Ythkeopkehjkpeaa.fnSwapTurns
namespace Go.Proofs.Ythkeopkehjkpeaa
/-- the statement -/
theorem fnSwapTurns_holds : Rows.FnSwapTurnsSaid := fnSwapTurns.over
end Go.Proofs.Ythkeopkehjkpeaa
