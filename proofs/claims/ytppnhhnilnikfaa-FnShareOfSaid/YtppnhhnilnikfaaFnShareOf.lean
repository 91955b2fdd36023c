/- For every input the law answers true, and its argument reads afterwards as before: owners have their shares. No condition. -/
import Derived.Test.YtppnhhnilnikfaaRows
import Derived.Test.YtppnhhnilnikfaaDrawHf
import Derived.Test.YtppnhhnilnikfaaLedN
import Derived.Test.YtppnhhnilnikfaaEqH
import Derived.Test.YtppnhhnilnikfaaKeep
import Derived.WalkKit
import Derived.Deep.RegionHeld3
import Derived.Deep.QuietTactic
import Derived.ProofKit
import Derived.OpenShut
import Derived.ShutString
import Derived.ChangeOld
import Derived.Below
import Derived.Lib.SmallJoins
namespace Go.Proofs.Ytppnhhnilnikfaa.fnShareOf
open Go.ChangeShapes Go.WideShapes Go.ChangeAt Go.RowKit Go.Joins
open Go.ChangeMaps (open_string shut_string)
set_option linter.unusedVariables false
set_option linter.unusedSimpArgs false

theorem own : ownKnob Try.prog.godebug = none := by kernel_rfl
theorem laidOut : laidOutB Try.prog = true := by kernel_rfl
theorem shV_of {hs : List Hd} (h : vlR hs = true) {o : Int} : shV hs o = shR hs o := by unfold shV; rw [if_pos h]
theorem eqFr (n d : Int) (w : World) :
    Calls Try.prog 17 #[.agg #[.int .i64 n, .int .i64 d], .agg #[.int .i64 n, .int .i64 d]] w fun e w' => e = .returned (.bool true) ∧ Below w.heap.size w w' := by
  go_enter Try.func17, Try.ntmps17
  go_wp2
  go_ret
  exact ⟨rfl, by go_grown⟩

set_option maxRecDepth 100000 in
set_option maxHeartbeats 6000000 in
theorem walk (a0 : Option Addr) (len0 cap0 : Nat) (z0 : List Int) (w : World) (w0 : IsRow .u8 w a0 len0 cap0 z0) :
    Calls Try.prog 4 #[.slice a0 len0 cap0] w fun e w' => e = .returned (.bool true) ∧ Below w.heap.size w w' := by
  by_cases big : (1048576 : Int) < (len0 : Int)
  · go_enter Try.func4, Try.ntmps4
    go_wp2
    go_ret
    exact ⟨rfl, Below.refl _ _⟩
  go_enter Try.func4, Try.ntmps4
  go_wp2_with fail
  refine (drawShareOf a0 len0 cap0 z0 _ w0).mono ?_
  rintro e u1 ⟨b, cp, hs, q, rfl, hl6, hlc, hi, B⟩
  clear w0 big
  have hwu := B.size
  have n1 : hs.length ≤ 1048576 := by omega
  have HI := Lib.hid hi
  have D := Below.refl u1.heap.size u1
  clear hi
  cases hv : vlR hs with
  | false =>
    have CI := iShareOf b cp hs q u1 HI.out n1
    have CS : ∀ W, Below u1.heap.size u1 W → Calls Try.prog 18 #[.slice b hs.length cp, .int .i64 q] W (ShareO W hs q) := fun W hW => sShareOf b cp hs q W (hs_below HI.out hW) n1
    have CV : ∀ W, Below u1.heap.size u1 W → Calls Try.prog 12 #[.slice b hs.length cp] W fun e w' => e = .returned (.bool false) ∧ Below W.heap.size W w' := fun W hW => by
      have := iVL b cp hs W (hs_below HI.out hW) n1
      rw [hv] at this; exact this
    have HNN : Hid (vlR hs = true → (∀ j, j < hs.length → (hs.getD j hd0).1 ≠ q) → (shV hs q).1 = 0 ∧ (shV hs q).2 = 1) := fun hv hno => by rw [shV_of hv, shR_none hno]; exact ⟨rfl, rfl⟩
    have HAT : Hid (vlR hs = true → ∀ k, k < hs.length → (∀ j, j < k → (hs.getD j hd0).1 ≠ q) → (hs.getD k hd0).1 = q → (hs.getD k hd0).2.1 = (shV hs q).1 ∧ (hs.getD k hd0).2.2 = (shV hs q).2) := fun hv k hk hno he => by rw [shV_of hv, shR_at hk hno he]; exact ⟨rfl, rfl⟩
    unfold ShareO at CI CS
    generalize (shV hs q).1 = x at CI CS HNN HAT
    generalize (shV hs q).2 = y at CI CS HNN HAT
    have CE : ∀ W, Calls Try.prog 17 #[.agg #[.int .i64 x, .int .i64 y], .agg #[.int .i64 x, .int .i64 y]] W fun e w' => e = .returned (.bool true) ∧ Below W.heap.size W w' := fun W => eqFr x y W
    clear HNN HAT
    skip
    have hcl : IsHs u1 b hs := HI.out
    clear hv
    go_wp2_with fail
    refine CI.mono ?_
    rintro e u ⟨rfl, C⟩
    replace B := bel_tr B C
    replace D := bel_tr D C
    clear C CI
    go_wp2_with fail
    have G0 := c2_new u (.int .i64 x) (.int .i64 y) 27
    have HB := Lib.hid (B.alloc B.size (.cells #[.int .i64 x, .int .i64 y] 27))
    have HD := Lib.hid (D.alloc D.size (.cells #[.int .i64 x, .int .i64 y] 27))
    clear B D
    generalize u.alloc (.cells #[.int .i64 x, .int .i64 y] 27) = U at G0 HB HD ⊢
    generalize u.heap.size = gs at G0 ⊢
    obtain ⟨s0, s1, _, _, hgs⟩ := G0
    refine wp_region_held_drew (S := (fun w' => (w'.cell? ⟨gs, 0, none⟩ = some (.int .i64 x) ∧ w'.cell? ⟨gs, 1, none⟩ = some (.int .i64 y) ∧ w'.cell? ⟨gs, 0, none⟩ = some (.int .i64 x)) ∧ Below U.heap.size U w')) (by kernel_rfl) ?_ (fun hHeld => ?_)
    · exact ⟨⟨s0, s1, s0⟩, (Below.refl _ _).drew⟩
    refine wpAnyH_take (i := 0) (oi := ?oot68) (v := ?vvt68) ?hit68 (by kernel_rfl) ?h3t68 ?h4t68 ?h5t68 ?h6t68 (by assumption) ?h8t68
    case hit68 => (simp only [List.getElem?_toArray, List.getElem?_cons_succ, List.getElem?_cons_zero]; rfl)
    case h3t68 => kernel_rfl
    case h4t68 => kernel_rfl
    case h6t68 => (refine Or.inl ⟨by rfl, ?_⟩; intro w hSw; (try dsimp only at hSw); (go_simp <;> with_reducible rfl))
    case h5t68 => exact fun _ _ _ h => h
    try simp only [Act.put, List.setIfInBounds_toArray, List.set_cons_zero, List.set_cons_succ]
    refine wpAnyH_take (i := 1) (oi := ?oot69) (v := ?vvt69) ?hit69 (by kernel_rfl) ?h3t69 ?h4t69 ?h5t69 ?h6t69 (by assumption) ?h8t69
    case hit69 => (simp only [List.getElem?_toArray, List.getElem?_cons_succ, List.getElem?_cons_zero]; rfl)
    case h3t69 => kernel_rfl
    case h4t69 => kernel_rfl
    case h6t69 => (refine Or.inl ⟨by rfl, ?_⟩; intro w hSw; (try dsimp only at hSw); (go_simp <;> with_reducible rfl))
    case h5t69 => exact fun _ _ _ h => h
    try simp only [Act.put, List.setIfInBounds_toArray, List.set_cons_zero, List.set_cons_succ]
    refine wpAnyH_take (i := 2) (oi := ?oot70) (v := ?vvt70) ?hit70 (by kernel_rfl) ?h3t70 ?h4t70 ?h5t70 ?h6t70 (by assumption) ?h8t70
    case hit70 => (simp only [List.getElem?_toArray, List.getElem?_cons_succ, List.getElem?_cons_zero]; rfl)
    case h3t70 => kernel_rfl
    case h4t70 => kernel_rfl
    case h6t70 => (refine Or.inl ⟨by rfl, ?_⟩; intro w hSw; (try dsimp only at hSw); (go_simp <;> with_reducible rfl))
    case h5t70 => exact fun _ _ _ h => h
    try simp only [Act.put, List.setIfInBounds_toArray, List.set_cons_zero, List.set_cons_succ]
    refine wpAnyH_ready (rs := [3]) (by kernel_rfl) (by simp) (AllReadyH.cons (o := ?oot71) ?hit71 (fun K hK => ?hkt71) AllReadyH.nil)
    rotate_left
    case hit71 => (simp only [List.getElem?_toArray, List.getElem?_cons_succ, List.getElem?_cons_zero]; rfl)
    (rw [if_pos (by rfl)]; go_simp; refine (CS _ (bel_tr HD.out hHeld.2)).mono ?_; rintro e W5 ⟨rfl, hb5⟩; go_wp2_with fail; refine hK.out _ _ (kp3 hb5 hHeld) (fun hHeld => ?_); clear hK K)
    try simp only [Act.put, List.setIfInBounds_toArray, List.set_cons_zero, List.set_cons_succ]
    refine wpAnyH_ready (rs := [4]) (by kernel_rfl) (by simp) (AllReadyH.cons (o := ?oot72) ?hit72 (fun K hK => ?hkt72) AllReadyH.nil)
    rotate_left
    case hit72 => (simp only [List.getElem?_toArray, List.getElem?_cons_succ, List.getElem?_cons_zero]; rfl)
    (rw [if_pos (by rfl)]; go_simp; refine (CE _).mono ?_; rintro e W6 ⟨rfl, hb6⟩; go_wp2_with fail; refine hK.out _ _ (kp3 hb6 hHeld) (fun hHeld => ?_); clear hK K)
    try simp only [Act.put, List.setIfInBounds_toArray, List.set_cons_zero, List.set_cons_succ]
    refine wpAnyH_take (i := 5) (oi := ?oot73) (v := ?vvt73) ?hit73 (by kernel_rfl) ?h3t73 ?h4t73 ?h5t73 ?h6t73 (by assumption) ?h8t73
    case hit73 => (simp only [List.getElem?_toArray, List.getElem?_cons_succ, List.getElem?_cons_zero]; rfl)
    case h3t73 => kernel_rfl
    case h4t73 => kernel_rfl
    case h6t73 => (refine Or.inl ⟨by rfl, ?_⟩; intro w hSw; (try dsimp only at hSw); (go_simp <;> with_reducible rfl))
    case h5t73 => exact fun _ _ _ h => h
    try simp only [Act.put, List.setIfInBounds_toArray, List.set_cons_zero, List.set_cons_succ]
    refine wpAnyH_take (i := 6) (oi := ?oot74) (v := ?vvt74) ?hit74 (by kernel_rfl) ?h3t74 ?h4t74 ?h5t74 ?h6t74 (by assumption) ?h8t74
    case hit74 => (simp only [List.getElem?_toArray, List.getElem?_cons_succ, List.getElem?_cons_zero]; rfl)
    case h3t74 => kernel_rfl
    case h4t74 => kernel_rfl
    case h6t74 => (refine Or.inl ⟨by rfl, ?_⟩; intro w hSw; (try dsimp only at hSw); (go_simp <;> with_reducible rfl))
    case h5t74 => exact fun _ _ _ h => h
    try simp only [Act.put, List.setIfInBounds_toArray, List.set_cons_zero, List.set_cons_succ]
    refine wpAnyH_take (i := 7) (oi := ?oot75) (v := ?vvt75) ?hit75 (by kernel_rfl) ?h3t75 ?h4t75 ?h5t75 ?h6t75 (by assumption) ?h8t75
    case hit75 => (simp only [List.getElem?_toArray, List.getElem?_cons_succ, List.getElem?_cons_zero]; rfl)
    case h3t75 => kernel_rfl
    case h4t75 => kernel_rfl
    case h6t75 => (refine Or.inl ⟨by rfl, ?_⟩; intro w hSw; (try dsimp only at hSw); (go_simp <;> with_reducible rfl))
    case h5t75 => exact fun _ _ _ h => h
    try simp only [Act.put, List.setIfInBounds_toArray, List.set_cons_zero, List.set_cons_succ]
    refine wpAnyH_ready (rs := [8]) (by kernel_rfl) (by simp) (AllReadyH.cons (o := ?oot76) ?hit76 (fun K hK => ?hkt76) AllReadyH.nil)
    rotate_left
    case hit76 => (simp only [List.getElem?_toArray, List.getElem?_cons_succ, List.getElem?_cons_zero]; rfl)
    (rw [if_pos (by rfl)]; go_simp; refine (CV _ (bel_tr HD.out hHeld.2)).mono ?_; rintro e W7 ⟨rfl, hb7⟩; go_wp2_with fail; refine hK.out _ _ (kp3 hb7 hHeld) (fun hHeld => ?_); clear hK K)
    try simp only [Act.put, List.setIfInBounds_toArray, List.set_cons_zero, List.set_cons_succ]
    refine wpAnyH_take (i := 9) (oi := ?oot77) (v := ?vvt77) ?hit77 (by kernel_rfl) ?h3t77 ?h4t77 ?h5t77 ?h6t77 (by assumption) ?h8t77
    case hit77 => (simp only [List.getElem?_toArray, List.getElem?_cons_succ, List.getElem?_cons_zero]; rfl)
    case h3t77 => kernel_rfl
    case h4t77 => kernel_rfl
    case h6t77 => (refine Or.inl ⟨by rfl, ?_⟩; intro w hSw; (try dsimp only at hSw); (go_simp <;> with_reducible rfl))
    case h5t77 => exact fun _ _ _ h => h
    try simp only [Act.put, List.setIfInBounds_toArray, List.set_cons_zero, List.set_cons_succ]
    refine wpAnyH_take (i := 10) (oi := ?oot78) (v := ?vvt78) ?hit78 (by kernel_rfl) ?h3t78 ?h4t78 ?h5t78 ?h6t78 (by assumption) ?h8t78
    case hit78 => (simp only [List.getElem?_toArray, List.getElem?_cons_succ, List.getElem?_cons_zero]; rfl)
    case h3t78 => kernel_rfl
    case h4t78 => kernel_rfl
    case h6t78 => (refine Or.inl ⟨by rfl, ?_⟩; intro w hSw; (try dsimp only at hSw); (go_simp <;> with_reducible rfl))
    case h5t78 => exact fun _ _ _ h => h
    try simp only [Act.put, List.setIfInBounds_toArray, List.set_cons_zero, List.set_cons_succ]
    refine wpAnyH_done (by kernel_rfl) ?_ _
    obtain ⟨⟨t0, t1, _⟩, hU⟩ := hHeld
    have HU := Lib.hid hU
    go_wp2_with fail
    obtain ⟨V, hV⟩ : ∃ V, V = W7 := ⟨_, rfl⟩
    subst hV
    clear hU
    refine wp_region_held_drew (S := (fun w' => (w'.cell? ⟨gs, 0, none⟩ = some (.int .i64 x) ∧ w'.cell? ⟨gs, 1, none⟩ = some (.int .i64 y) ∧ w'.cell? ⟨gs, 0, none⟩ = some (.int .i64 x)) ∧ Below V.heap.size V w')) (by kernel_rfl) ?_ (fun hHeld => ?_)
    · exact ⟨⟨t0, t1, t0⟩, (Below.refl _ _).drew⟩
    refine wpAnyH_take (i := 0) (oi := ?oot61) (v := ?vvt61) ?hit61 (by kernel_rfl) ?h3t61 ?h4t61 ?h5t61 ?h6t61 (by assumption) ?h8t61
    case hit61 => (simp only [List.getElem?_toArray, List.getElem?_cons_succ, List.getElem?_cons_zero]; rfl)
    case h3t61 => kernel_rfl
    case h4t61 => kernel_rfl
    case h6t61 => (refine Or.inl ⟨by rfl, ?_⟩; intro w hSw; (try dsimp only at hSw); (go_simp <;> with_reducible rfl))
    case h5t61 => exact fun _ _ _ h => h
    try simp only [Act.put, List.setIfInBounds_toArray, List.set_cons_zero, List.set_cons_succ]
    refine wpAnyH_take (i := 1) (oi := ?oot62) (v := ?vvt62) ?hit62 (by kernel_rfl) ?h3t62 ?h4t62 ?h5t62 ?h6t62 (by assumption) ?h8t62
    case hit62 => (simp only [List.getElem?_toArray, List.getElem?_cons_succ, List.getElem?_cons_zero]; rfl)
    case h3t62 => kernel_rfl
    case h4t62 => kernel_rfl
    case h6t62 => (refine Or.inl ⟨by rfl, ?_⟩; intro w hSw; (try dsimp only at hSw); (go_simp <;> with_reducible rfl))
    case h5t62 => exact fun _ _ _ h => h
    try simp only [Act.put, List.setIfInBounds_toArray, List.set_cons_zero, List.set_cons_succ]
    refine wpAnyH_take (i := 2) (oi := ?oot63) (v := ?vvt63) ?hit63 (by kernel_rfl) ?h3t63 ?h4t63 ?h5t63 ?h6t63 (by assumption) ?h8t63
    case hit63 => (simp only [List.getElem?_toArray, List.getElem?_cons_succ, List.getElem?_cons_zero]; rfl)
    case h3t63 => kernel_rfl
    case h4t63 => kernel_rfl
    case h6t63 => (refine Or.inl ⟨by rfl, ?_⟩; intro w hSw; (try dsimp only at hSw); (go_simp <;> with_reducible rfl))
    case h5t63 => exact fun _ _ _ h => h
    try simp only [Act.put, List.setIfInBounds_toArray, List.set_cons_zero, List.set_cons_succ]
    refine wpAnyH_ready (rs := [3]) (by kernel_rfl) (by simp) (AllReadyH.cons (o := ?oot64) ?hit64 (fun K hK => ?hkt64) AllReadyH.nil)
    rotate_left
    case hit64 => (simp only [List.getElem?_toArray, List.getElem?_cons_succ, List.getElem?_cons_zero]; rfl)
    (rw [if_pos (by rfl)]; go_simp; refine (CS _ (bel_tr HD.out (bel_tr HU.out hHeld.2))).mono ?_; rintro e W8 ⟨rfl, hb8⟩; go_wp2_with fail; refine hK.out _ _ (kp3 hb8 hHeld) (fun hHeld => ?_); clear hK K)
    try simp only [Act.put, List.setIfInBounds_toArray, List.set_cons_zero, List.set_cons_succ]
    refine wpAnyH_ready (rs := [4]) (by kernel_rfl) (by simp) (AllReadyH.cons (o := ?oot65) ?hit65 (fun K hK => ?hkt65) AllReadyH.nil)
    rotate_left
    case hit65 => (simp only [List.getElem?_toArray, List.getElem?_cons_succ, List.getElem?_cons_zero]; rfl)
    (rw [if_pos (by rfl)]; go_simp; refine (CE _).mono ?_; rintro e W9 ⟨rfl, hb9⟩; go_wp2_with fail; refine hK.out _ _ (kp3 hb9 hHeld) (fun hHeld => ?_); clear hK K)
    try simp only [Act.put, List.setIfInBounds_toArray, List.set_cons_zero, List.set_cons_succ]
    refine wpAnyH_take (i := 5) (oi := ?oot66) (v := ?vvt66) ?hit66 (by kernel_rfl) ?h3t66 ?h4t66 ?h5t66 ?h6t66 (by assumption) ?h8t66
    case hit66 => (simp only [List.getElem?_toArray, List.getElem?_cons_succ, List.getElem?_cons_zero]; rfl)
    case h3t66 => kernel_rfl
    case h4t66 => kernel_rfl
    case h6t66 => (refine Or.inl ⟨by rfl, ?_⟩; intro w hSw; (try dsimp only at hSw); (go_simp <;> with_reducible rfl))
    case h5t66 => exact fun _ _ _ h => h
    try simp only [Act.put, List.setIfInBounds_toArray, List.set_cons_zero, List.set_cons_succ]
    refine wpAnyH_done (by kernel_rfl) ?_ _
    have B := bel_tr HB.out (bel_tr HU.out (And.right (by assumption)))
    go_wp2_with fail
    go_ret
    exact ⟨rfl, B⟩
  | true =>
    have CI := iShareOf b cp hs q u1 HI.out n1
    have CS : ∀ W, Below u1.heap.size u1 W → Calls Try.prog 18 #[.slice b hs.length cp, .int .i64 q] W (ShareO W hs q) := fun W hW => sShareOf b cp hs q W (hs_below HI.out hW) n1
    have CV : ∀ W, Below u1.heap.size u1 W → Calls Try.prog 12 #[.slice b hs.length cp] W fun e w' => e = .returned (.bool true) ∧ Below W.heap.size W w' := fun W hW => by
      have := iVL b cp hs W (hs_below HI.out hW) n1
      rw [hv] at this; exact this
    have HNN : Hid (vlR hs = true → (∀ j, j < hs.length → (hs.getD j hd0).1 ≠ q) → (shV hs q).1 = 0 ∧ (shV hs q).2 = 1) := fun hv hno => by rw [shV_of hv, shR_none hno]; exact ⟨rfl, rfl⟩
    have HAT : Hid (vlR hs = true → ∀ k, k < hs.length → (∀ j, j < k → (hs.getD j hd0).1 ≠ q) → (hs.getD k hd0).1 = q → (hs.getD k hd0).2.1 = (shV hs q).1 ∧ (hs.getD k hd0).2.2 = (shV hs q).2) := fun hv k hk hno he => by rw [shV_of hv, shR_at hk hno he]; exact ⟨rfl, rfl⟩
    unfold ShareO at CI CS
    generalize (shV hs q).1 = x at CI CS HNN HAT
    generalize (shV hs q).2 = y at CI CS HNN HAT
    have CE : ∀ W, Calls Try.prog 17 #[.agg #[.int .i64 x, .int .i64 y], .agg #[.int .i64 x, .int .i64 y]] W fun e w' => e = .returned (.bool true) ∧ Below W.heap.size W w' := fun W => eqFr x y W
    replace HNN := Lib.hid (HNN.out hv)
    replace HAT := Lib.hid (HAT.out hv)
    have hcl : IsHs u1 b hs := HI.out
    clear hv
    go_wp2_with fail
    refine CI.mono ?_
    rintro e u ⟨rfl, C⟩
    replace B := bel_tr B C
    replace D := bel_tr D C
    clear C CI
    go_wp2_with fail
    have G0 := c2_new u (.int .i64 x) (.int .i64 y) 27
    have HB := Lib.hid (B.alloc B.size (.cells #[.int .i64 x, .int .i64 y] 27))
    have HD := Lib.hid (D.alloc D.size (.cells #[.int .i64 x, .int .i64 y] 27))
    clear B D
    generalize u.alloc (.cells #[.int .i64 x, .int .i64 y] 27) = U at G0 HB HD ⊢
    generalize u.heap.size = gs at G0 ⊢
    obtain ⟨s0, s1, _, _, hgs⟩ := G0
    refine wp_region_held_drew (S := (fun w' => (w'.cell? ⟨gs, 0, none⟩ = some (.int .i64 x) ∧ w'.cell? ⟨gs, 1, none⟩ = some (.int .i64 y) ∧ w'.cell? ⟨gs, 0, none⟩ = some (.int .i64 x)) ∧ Below U.heap.size U w')) (by kernel_rfl) ?_ (fun hHeld => ?_)
    · exact ⟨⟨s0, s1, s0⟩, (Below.refl _ _).drew⟩
    refine wpAnyH_take (i := 0) (oi := ?oot80) (v := ?vvt80) ?hit80 (by kernel_rfl) ?h3t80 ?h4t80 ?h5t80 ?h6t80 (by assumption) ?h8t80
    case hit80 => (simp only [List.getElem?_toArray, List.getElem?_cons_succ, List.getElem?_cons_zero]; rfl)
    case h3t80 => kernel_rfl
    case h4t80 => kernel_rfl
    case h6t80 => (refine Or.inl ⟨by rfl, ?_⟩; intro w hSw; (try dsimp only at hSw); (go_simp <;> with_reducible rfl))
    case h5t80 => exact fun _ _ _ h => h
    try simp only [Act.put, List.setIfInBounds_toArray, List.set_cons_zero, List.set_cons_succ]
    refine wpAnyH_take (i := 1) (oi := ?oot81) (v := ?vvt81) ?hit81 (by kernel_rfl) ?h3t81 ?h4t81 ?h5t81 ?h6t81 (by assumption) ?h8t81
    case hit81 => (simp only [List.getElem?_toArray, List.getElem?_cons_succ, List.getElem?_cons_zero]; rfl)
    case h3t81 => kernel_rfl
    case h4t81 => kernel_rfl
    case h6t81 => (refine Or.inl ⟨by rfl, ?_⟩; intro w hSw; (try dsimp only at hSw); (go_simp <;> with_reducible rfl))
    case h5t81 => exact fun _ _ _ h => h
    try simp only [Act.put, List.setIfInBounds_toArray, List.set_cons_zero, List.set_cons_succ]
    refine wpAnyH_take (i := 2) (oi := ?oot82) (v := ?vvt82) ?hit82 (by kernel_rfl) ?h3t82 ?h4t82 ?h5t82 ?h6t82 (by assumption) ?h8t82
    case hit82 => (simp only [List.getElem?_toArray, List.getElem?_cons_succ, List.getElem?_cons_zero]; rfl)
    case h3t82 => kernel_rfl
    case h4t82 => kernel_rfl
    case h6t82 => (refine Or.inl ⟨by rfl, ?_⟩; intro w hSw; (try dsimp only at hSw); (go_simp <;> with_reducible rfl))
    case h5t82 => exact fun _ _ _ h => h
    try simp only [Act.put, List.setIfInBounds_toArray, List.set_cons_zero, List.set_cons_succ]
    refine wpAnyH_ready (rs := [3]) (by kernel_rfl) (by simp) (AllReadyH.cons (o := ?oot83) ?hit83 (fun K hK => ?hkt83) AllReadyH.nil)
    rotate_left
    case hit83 => (simp only [List.getElem?_toArray, List.getElem?_cons_succ, List.getElem?_cons_zero]; rfl)
    (rw [if_pos (by rfl)]; go_simp; refine (CS _ (bel_tr HD.out hHeld.2)).mono ?_; rintro e W5 ⟨rfl, hb5⟩; go_wp2_with fail; refine hK.out _ _ (kp3 hb5 hHeld) (fun hHeld => ?_); clear hK K)
    try simp only [Act.put, List.setIfInBounds_toArray, List.set_cons_zero, List.set_cons_succ]
    refine wpAnyH_ready (rs := [4]) (by kernel_rfl) (by simp) (AllReadyH.cons (o := ?oot84) ?hit84 (fun K hK => ?hkt84) AllReadyH.nil)
    rotate_left
    case hit84 => (simp only [List.getElem?_toArray, List.getElem?_cons_succ, List.getElem?_cons_zero]; rfl)
    (rw [if_pos (by rfl)]; go_simp; refine (CE _).mono ?_; rintro e W6 ⟨rfl, hb6⟩; go_wp2_with fail; refine hK.out _ _ (kp3 hb6 hHeld) (fun hHeld => ?_); clear hK K)
    try simp only [Act.put, List.setIfInBounds_toArray, List.set_cons_zero, List.set_cons_succ]
    refine wpAnyH_take (i := 5) (oi := ?oot85) (v := ?vvt85) ?hit85 (by kernel_rfl) ?h3t85 ?h4t85 ?h5t85 ?h6t85 (by assumption) ?h8t85
    case hit85 => (simp only [List.getElem?_toArray, List.getElem?_cons_succ, List.getElem?_cons_zero]; rfl)
    case h3t85 => kernel_rfl
    case h4t85 => kernel_rfl
    case h6t85 => (refine Or.inl ⟨by rfl, ?_⟩; intro w hSw; (try dsimp only at hSw); (go_simp <;> with_reducible rfl))
    case h5t85 => exact fun _ _ _ h => h
    try simp only [Act.put, List.setIfInBounds_toArray, List.set_cons_zero, List.set_cons_succ]
    refine wpAnyH_take (i := 6) (oi := ?oot86) (v := ?vvt86) ?hit86 (by kernel_rfl) ?h3t86 ?h4t86 ?h5t86 ?h6t86 (by assumption) ?h8t86
    case hit86 => (simp only [List.getElem?_toArray, List.getElem?_cons_succ, List.getElem?_cons_zero]; rfl)
    case h3t86 => kernel_rfl
    case h4t86 => kernel_rfl
    case h6t86 => (refine Or.inl ⟨by rfl, ?_⟩; intro w hSw; (try dsimp only at hSw); (go_simp <;> with_reducible rfl))
    case h5t86 => exact fun _ _ _ h => h
    try simp only [Act.put, List.setIfInBounds_toArray, List.set_cons_zero, List.set_cons_succ]
    refine wpAnyH_take (i := 7) (oi := ?oot87) (v := ?vvt87) ?hit87 (by kernel_rfl) ?h3t87 ?h4t87 ?h5t87 ?h6t87 (by assumption) ?h8t87
    case hit87 => (simp only [List.getElem?_toArray, List.getElem?_cons_succ, List.getElem?_cons_zero]; rfl)
    case h3t87 => kernel_rfl
    case h4t87 => kernel_rfl
    case h6t87 => (refine Or.inl ⟨by rfl, ?_⟩; intro w hSw; (try dsimp only at hSw); (go_simp <;> with_reducible rfl))
    case h5t87 => exact fun _ _ _ h => h
    try simp only [Act.put, List.setIfInBounds_toArray, List.set_cons_zero, List.set_cons_succ]
    refine wpAnyH_ready (rs := [8]) (by kernel_rfl) (by simp) (AllReadyH.cons (o := ?oot88) ?hit88 (fun K hK => ?hkt88) AllReadyH.nil)
    rotate_left
    case hit88 => (simp only [List.getElem?_toArray, List.getElem?_cons_succ, List.getElem?_cons_zero]; rfl)
    (rw [if_pos (by rfl)]; go_simp; refine (CV _ (bel_tr HD.out hHeld.2)).mono ?_; rintro e W7 ⟨rfl, hb7⟩; go_wp2_with fail; refine hK.out _ _ (kp3 hb7 hHeld) (fun hHeld => ?_); clear hK K)
    try simp only [Act.put, List.setIfInBounds_toArray, List.set_cons_zero, List.set_cons_succ]
    refine wpAnyH_take (i := 9) (oi := ?oot89) (v := ?vvt89) ?hit89 (by kernel_rfl) ?h3t89 ?h4t89 ?h5t89 ?h6t89 (by assumption) ?h8t89
    case hit89 => (simp only [List.getElem?_toArray, List.getElem?_cons_succ, List.getElem?_cons_zero]; rfl)
    case h3t89 => kernel_rfl
    case h4t89 => kernel_rfl
    case h6t89 => (refine Or.inl ⟨by rfl, ?_⟩; intro w hSw; (try dsimp only at hSw); (go_simp <;> with_reducible rfl))
    case h5t89 => exact fun _ _ _ h => h
    try simp only [Act.put, List.setIfInBounds_toArray, List.set_cons_zero, List.set_cons_succ]
    refine wpAnyH_take (i := 10) (oi := ?oot90) (v := ?vvt90) ?hit90 (by kernel_rfl) ?h3t90 ?h4t90 ?h5t90 ?h6t90 (by assumption) ?h8t90
    case hit90 => (simp only [List.getElem?_toArray, List.getElem?_cons_succ, List.getElem?_cons_zero]; rfl)
    case h3t90 => kernel_rfl
    case h4t90 => kernel_rfl
    case h6t90 => (refine Or.inl ⟨by rfl, ?_⟩; intro w hSw; (try dsimp only at hSw); (go_simp <;> with_reducible rfl))
    case h5t90 => exact fun _ _ _ h => h
    try simp only [Act.put, List.setIfInBounds_toArray, List.set_cons_zero, List.set_cons_succ]
    refine wpAnyH_done (by kernel_rfl) ?_ _
    obtain ⟨⟨t0, t1, _⟩, hU⟩ := hHeld
    have B := bel_tr HB.out hU
    have D := bel_tr HD.out hU
    have E := Below.refl W7.heap.size W7
    clear hU CS CE CV
    go_wp2_with fail
    go_loopw [6] (fun i wr => ∃ k : Nat, k ≤ hs.length ∧ i = .int .i64 k ∧ (∀ j, j < k → (hs.getD j hd0).1 ≠ q) ∧ wr.cell? ⟨gs, 0, none⟩ = some (.int .i64 x) ∧ wr.cell? ⟨gs, 1, none⟩ = some (.int .i64 y) ∧ Below w.heap.size w wr ∧ Below u1.heap.size u1 wr) (fun i _ => hs.length - (intOf i).toNat)
    case atStart => exact ⟨0, Nat.zero_le _, rfl, fun j hj => absurd hj (Nat.not_lt_zero _), t0, t1, B, D⟩
    case round =>
      clear B D t0 t1 E
      obtain ⟨k, hk, rfl, hno, t0, t1, B, D⟩ := hrel
      by_cases hlt : k < hs.length
      · have hat := HAT.out k hlt hno
        rcases hcl with rfl | ⟨g, oo, rfl, hc⟩
        · simp at hlt
        obtain ⟨c0, c1, c2⟩ := hs_at hc D hlt
        have HNO := Lib.hid hno
        obtain ⟨z, hz⟩ : ∃ z, (hs.getD k hd0).1 = z := ⟨_, rfl⟩
        rw [hz] at c0 hat
        have HZ := Lib.hid hz
        clear hno hc hz
        by_cases e : z = q
        · have e9 : (z == q) = true := by simpa using e
          obtain ⟨h1, h2⟩ := hat e
          rw [h1] at c1
          rw [h2] at c2
          have k0 : (0 : Int) ≤ (k : Int) := by omega
          have k1 : (k : Int) < (hs.length : Int) := by omega
          clear hat e h1 h2
          go_wp2_with fail
          go_quiet (fail)
          go_wp2_with fail
          go_ret
          exact ⟨rfl, below_drewN B _⟩
        · have e9 : (z == q) = false := by simpa using e
          have hn2 : Hid (∀ j, j < k + 1 → (hs.getD j hd0).1 ≠ q) := fun j hj => by
            by_cases c : j = k
            · subst c; rw [HZ.out]; exact e
            · exact HNO.out j (by omega)
          clear hat e c1 c2
          go_wp2_with fail
          go_roundw
          case rel => exact ⟨k + 1, by omega, by go_num, hn2.out, t0, t1, B, D⟩
          case measure => simp [intOf]; omega
      · obtain rfl : k = hs.length := by omega
        obtain ⟨h1, h2⟩ := HNN.out hno
        subst h1 h2
        clear hcl hno
        go_wp2_with fail
        go_ret
        exact ⟨rfl, B⟩

set_option maxRecDepth 100000 in
theorem lifted (os : Os) (started : os.Started) (H : Type) (enc : TypeId × Value → H) :
    ReturnsInHanded {} Try.checked os 4 .any (Rows.fnShareOfSpec.pre6 enc Try.prog Try.f4 Rows.fnShareOfRow.domain false) (Rows.fnShareOfSpec.post enc Try.prog Try.f4 false true false false) := by
  refine returnsInHanded_of_change (C := Try.checked) own started (by kernel_rfl) Try.func4
    (ChangeSpec.witness6 (enc := enc) (C := Try.checked) false ⟨#[], #[.slice none 0 0], []⟩ 8 (by kernel_rfl) (by kernel_rfl) (by kernel_rfl) (by kernel_rfl)) ?_
  intro W base args ds gs before hval0 hW hcnd _
  have hval : ∀ (j : Nat) t v, Try.f4.params[j]? = some t → args[j]? = some v → Value.okWide Try.prog W .any base t v := hval0
  have hW' := hW
  obtain ⟨p, q, hA0, hV, rfl, hfz, hnd⟩ := hW
  have hA : DataW.TrodAll enc Try.prog W 0 (fun _ => true) true Try.f4.params.toList args.toList ds p := hA0
  rw [Try.params4] at hA hval
  obtain ⟨v0, vs0, e0, es0, p0, q0, hargs, rfl, rfl, h0, r0⟩ := trodAll_cons hA
  obtain ⟨rfl, rfl, rfl⟩ := trodAll_nil r0
  obtain rfl : args = #[v0] := by cases args; simp_all
  obtain ⟨rfl, rfl⟩ := trodVars_none hV
  have k0 := h0
  have lt0 : ∀ x ∈ p0, x.block < W.heap.size := by obtain ⟨m, hm⟩ := k0; exact DataW.trod_lt m _ _ _ hm
  obtain ⟨a0, len0, cap0, rfl⟩ := okWide_slice Try.underlying22 (hval 0 22 v0 rfl rfl)
  obtain ⟨z0, w0⟩ : ∃ zs, IsRow .u8 W a0 len0 cap0 zs := by
    obtain ⟨fuel, hf⟩ := h0
    rcases open_ints Try.underlying22 Try.underlying5 (by kernel_rfl) hf with ⟨hcs, _⟩ | ⟨x, l, c, zs, hcs, _, hl, hm, hz, _, hcell, hwz⟩
    · simp [Value.cells] at hcs
      obtain ⟨rfl, rfl, rfl⟩ := hcs
      exact ⟨[], .inl ⟨rfl, rfl, rfl, rfl⟩⟩
    · simp [Value.cells] at hcs
      obtain ⟨rfl, rfl, rfl⟩ := hcs
      exact ⟨zs, .inr ⟨_, rfl, hl, hm, by simpa using hz, hcell, hwz⟩⟩
  clear hA0 hval0
  refine (walk a0 len0 cap0 z0 W w0).mono fun e W' ⟨he, bel⟩ => ?_
  subst he
  exact ⟨_, rfl, _, _, _, [], _, [], hW', trodAll_mk1 (shut_bool Try.underlying4 _), (trodAll_cons_mk (Below.trod laidOut (by kernel_rfl) (of_decide_eq_true (by kernel_rfl)) k0 bel lt0) trodAll_mk0), rfl, bel.frame _, fun h => by cases h⟩

theorem over : Rows.fnShareOfRow.holds Try.pinned (OpenSpec.ofChange Rows.fnShareOfSpec) :=
  OpenClaim.holds_of_wide 4 Try.f4 rfl rfl rfl rfl rfl rfl rfl ⟨rfl, rfl, rfl, rfl, rfl⟩ rfl rfl rfl rfl rfl (by kernel_rfl) Try.func4 (by kernel_rfl)
    (of_decide_eq_true (by kernel_rfl)) (by unfold Func.isWrapper; first | (rw [if_pos (by decide +kernel)]; kernel_rfl) | (rw [if_neg (by decide +kernel)]; exact ⟨rfl, rfl⟩))
    (fun os started H enc _ => lifted os started H enc)

end Go.Proofs.Ytppnhhnilnikfaa.fnShareOf
namespace Go.Proofs.Ytppnhhnilnikfaa
/-- the statement -/
theorem fnShareOf_holds : Rows.FnShareOfSaid := fnShareOf.over
end Go.Proofs.Ytppnhhnilnikfaa
