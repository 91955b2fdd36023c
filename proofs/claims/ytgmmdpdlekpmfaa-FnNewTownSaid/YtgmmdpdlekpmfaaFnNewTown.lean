/- For every input the law answers true, and its argument reads afterwards as before: new towns are valid and begin empty. No condition. -/
import Derived.Test.YtgmmdpdlekpmfaaRows
import Derived.Test.YtgmmdpdlekpmfaaNewQ
import Derived.Test.YtgmmdpdlekpmfaaDrawNt
import Derived.Test.YtgmmdpdlekpmfaaEqTw
import Derived.Test.YtgmmdpdlekpmfaaLawTv
import Derived.Test.YtgmmdpdlekpmfaaTwN
import Derived.Test.YtgmmdpdlekpmfaaTurnX
import Derived.WalkKit
import Derived.Deep.RegionHeld3
import Derived.Deep.RegionWith
import Derived.Deep.QuietTactic
import Derived.BigQuiet
import Derived.RegionTactic
import Derived.ChangeAlike
import Derived.BigRegion
import Derived.ProofKit
import Derived.OpenShut
import Derived.ShutString
import Derived.ChangeOld
import Derived.Below
import Derived.Lib.SmallJoins
namespace Go.Proofs.Ytgmmdpdlekpmfaa.fnNewTown
open Go.ChangeShapes Go.WideShapes Go.ChangeAt Go.RowKit Go.Joins
open Go.ChangeMaps (open_string shut_string)
set_option linter.unusedVariables false
set_option linter.unusedSimpArgs false

theorem own : ownKnob Try.prog.godebug = none := by kernel_rfl
theorem laidOut : laidOutB Try.prog = true := by kernel_rfl

set_option maxRecDepth 100000 in
set_option maxHeartbeats 8000000 in
theorem walk (a0 : Option Addr) (len0 cap0 : Nat) (z0 : List Int) (w : World) (w0 : IsRow .u8 w a0 len0 cap0 z0) :
    Calls Try.prog 6 #[.slice a0 len0 cap0] w fun e w' => e = .returned (.bool true) ∧ Below w.heap.size w w' := by
  by_cases big : (1048576 : Int) < (len0 : Int)
  · go_enter Try.func6, Try.ntmps6
    go_wp2
    go_ret
    exact ⟨rfl, Below.refl _ _⟩
  go_enter Try.func6, Try.ntmps6
  go_wp2_with fail
  refine (drawNewTown a0 len0 cap0 z0 _ w0).mono ?_
  rintro e u1 ⟨o, x, y, rfl, B⟩
  clear w0 big
  have CS := Lib.hid (fun W => sNewTown o x y W)
  have CI := Lib.hid (fun W => iNewTown o x y W)
  have HB : Hid (Below w.heap.size w u1) := B
  cases hc : (inB3 o 1 999 && (inB3 x 0 20000 && inB3 y 0 500)) with
  | false =>
    rw [new_no hc] at CS CI
    have CS2 : Hid (∀ W, Calls Try.prog 17 #[.int .i64 o, .int .i64 x, .int .i64 y] W (OutTw W ⟨[], [], [], 0, 0, [], 0, 0, 0, 0⟩)) := CS
    have CI2 : Hid (∀ W, Calls Try.prog 18 #[.int .i64 o, .int .i64 x, .int .i64 y] W (OutTw W ⟨[], [], [], 0, 0, [], 0, 0, 0, 0⟩)) := CI
    clear CS CI hc
    go_wp2_with fail
    refine (CI2.out _).mono ?_
    intro e u2 h_
    obtain ⟨a1_1, c1_1, a2_1, c2_1, a3_1, c3_1, a4_1, c4_1, rfl, O_1, C⟩ := outTw_lit h_
    clear h_
    replace B := bel_tr B C
    clear C
    have CA := (Below.refl _ u2).alloc (Nat.le_refl _) (.cells #[.slice a1_1 0 c1_1, .slice a2_1 0 c2_1, .slice a3_1 0 c3_1, .int .i64 0, .int .i64 0, .slice a4_1 0 c4_1, .int .i64 0, .int .i64 0, .int .i64 0, .int .i64 0] 38)
    replace O_1 := O_1.next CA
    have K1 := Blk.new u2 38 #[.slice a1_1 0 c1_1, .slice a2_1 0 c2_1, .slice a3_1 0 c3_1, .int .i64 0, .int .i64 0, .slice a4_1 0 c4_1, .int .i64 0, .int .i64 0, .int .i64 0, .int .i64 0]
    replace B := bel_tr B CA
    obtain ⟨q1_0, q1_1, q1_2, q1_3, q1_4, q1_5, q1_6, q1_7, q1_8, q1_9⟩ := town_cells K1
    go_wp2_with fail
    generalize u2.alloc (.cells #[.slice a1_1 0 c1_1, .slice a2_1 0 c2_1, .slice a3_1 0 c3_1, .int .i64 0, .int .i64 0, .slice a4_1 0 c4_1, .int .i64 0, .int .i64 0, .int .i64 0, .int .i64 0] 38) = u3 at B CA K1 O_1 q1_0 q1_1 q1_2 q1_3 q1_4 q1_5 q1_6 q1_7 q1_8 q1_9 ⊢
    have I1 := O_1.is
    clear CA O_1
    have HMK1 := Lib.hid (fun (W : World) (hW : Below u3.heap.size u3 W) => (⟨⟨(hW.cell (p := ⟨u2.heap.size, 0, none⟩) (K1.lt)).trans q1_0, (hW.cell (p := ⟨u2.heap.size, 1, none⟩) (K1.lt)).trans q1_1, (hW.cell (p := ⟨u2.heap.size, 2, none⟩) (K1.lt)).trans q1_2, (hW.cell (p := ⟨u2.heap.size, 3, none⟩) (K1.lt)).trans q1_3, (hW.cell (p := ⟨u2.heap.size, 4, none⟩) (K1.lt)).trans q1_4, (hW.cell (p := ⟨u2.heap.size, 5, none⟩) (K1.lt)).trans q1_5, (hW.cell (p := ⟨u2.heap.size, 6, none⟩) (K1.lt)).trans q1_6, (hW.cell (p := ⟨u2.heap.size, 7, none⟩) (K1.lt)).trans q1_7, (hW.cell (p := ⟨u2.heap.size, 8, none⟩) (K1.lt)).trans q1_8, (hW.cell (p := ⟨u2.heap.size, 9, none⟩) (K1.lt)).trans q1_9⟩, hW⟩ : (W.cell? ⟨u2.heap.size, 0, none⟩ = some (.slice a1_1 0 c1_1) ∧ W.cell? ⟨u2.heap.size, 1, none⟩ = some (.slice a2_1 0 c2_1) ∧ W.cell? ⟨u2.heap.size, 2, none⟩ = some (.slice a3_1 0 c3_1) ∧ W.cell? ⟨u2.heap.size, 3, none⟩ = some (.int .i64 0) ∧ W.cell? ⟨u2.heap.size, 4, none⟩ = some (.int .i64 0) ∧ W.cell? ⟨u2.heap.size, 5, none⟩ = some (.slice a4_1 0 c4_1) ∧ W.cell? ⟨u2.heap.size, 6, none⟩ = some (.int .i64 0) ∧ W.cell? ⟨u2.heap.size, 7, none⟩ = some (.int .i64 0) ∧ W.cell? ⟨u2.heap.size, 8, none⟩ = some (.int .i64 0) ∧ W.cell? ⟨u2.heap.size, 9, none⟩ = some (.int .i64 0)) ∧ Below u3.heap.size u3 W))
    refine wp_region_held_drew (S := (fun w' => (w'.cell? ⟨u2.heap.size, 0, none⟩ = some (.slice a1_1 0 c1_1) ∧ w'.cell? ⟨u2.heap.size, 1, none⟩ = some (.slice a2_1 0 c2_1) ∧ w'.cell? ⟨u2.heap.size, 2, none⟩ = some (.slice a3_1 0 c3_1) ∧ w'.cell? ⟨u2.heap.size, 3, none⟩ = some (.int .i64 0) ∧ w'.cell? ⟨u2.heap.size, 4, none⟩ = some (.int .i64 0) ∧ w'.cell? ⟨u2.heap.size, 5, none⟩ = some (.slice a4_1 0 c4_1) ∧ w'.cell? ⟨u2.heap.size, 6, none⟩ = some (.int .i64 0) ∧ w'.cell? ⟨u2.heap.size, 7, none⟩ = some (.int .i64 0) ∧ w'.cell? ⟨u2.heap.size, 8, none⟩ = some (.int .i64 0) ∧ w'.cell? ⟨u2.heap.size, 9, none⟩ = some (.int .i64 0)) ∧ Below u3.heap.size u3 w')) (by kernel_rfl) ?_ (fun hHeld => ?_)
    · exact ⟨⟨q1_0, q1_1, q1_2, q1_3, q1_4, q1_5, q1_6, q1_7, q1_8, q1_9⟩, (Below.refl _ _).drew⟩
    refine wpAnyH_take (i := 0) (oi := ?ooa2_) (v := ?vva2_) ?hia2_ (by kernel_rfl) ?h3a2_ ?h4a2_ ?h5a2_ ?h6a2_ (by assumption) ?h8a2_
    case hia2_ => (simp only [List.getElem?_toArray, List.getElem?_cons_succ, List.getElem?_cons_zero]; rfl)
    case h3a2_ => kernel_rfl
    case h4a2_ => kernel_rfl
    case h6a2_ => (refine Or.inl ⟨by rfl, ?_⟩; intro w hSw; (try dsimp only at hSw); (go_simp <;> with_reducible rfl))
    case h5a2_ => exact fun _ _ _ h => h
    try simp only [Act.put, List.setIfInBounds_toArray, List.set_cons_zero, List.set_cons_succ]
    refine wpAnyH_take (i := 1) (oi := ?ooa3_) (v := ?vva3_) ?hia3_ (by kernel_rfl) ?h3a3_ ?h4a3_ ?h5a3_ ?h6a3_ (by assumption) ?h8a3_
    case hia3_ => (simp only [List.getElem?_toArray, List.getElem?_cons_succ, List.getElem?_cons_zero]; rfl)
    case h3a3_ => kernel_rfl
    case h4a3_ => kernel_rfl
    case h6a3_ => (refine Or.inl ⟨by rfl, ?_⟩; intro w hSw; (try dsimp only at hSw); (go_simp <;> with_reducible rfl))
    case h5a3_ => exact fun _ _ _ h => h
    try simp only [Act.put, List.setIfInBounds_toArray, List.set_cons_zero, List.set_cons_succ]
    refine wpAnyH_take (i := 2) (oi := ?ooa4_) (v := ?vva4_) ?hia4_ (by kernel_rfl) ?h3a4_ ?h4a4_ ?h5a4_ ?h6a4_ (by assumption) ?h8a4_
    case hia4_ => (simp only [List.getElem?_toArray, List.getElem?_cons_succ, List.getElem?_cons_zero]; rfl)
    case h3a4_ => kernel_rfl
    case h4a4_ => kernel_rfl
    case h6a4_ => (refine Or.inl ⟨by rfl, ?_⟩; intro w hSw; (try dsimp only at hSw); (go_simp <;> with_reducible rfl))
    case h5a4_ => exact fun _ _ _ h => h
    try simp only [Act.put, List.setIfInBounds_toArray, List.set_cons_zero, List.set_cons_succ]
    refine wpAnyH_take (i := 3) (oi := ?ooa5_) (v := ?vva5_) ?hia5_ (by kernel_rfl) ?h3a5_ ?h4a5_ ?h5a5_ ?h6a5_ (by assumption) ?h8a5_
    case hia5_ => (simp only [List.getElem?_toArray, List.getElem?_cons_succ, List.getElem?_cons_zero]; rfl)
    case h3a5_ => kernel_rfl
    case h4a5_ => kernel_rfl
    case h6a5_ => (refine Or.inl ⟨by rfl, ?_⟩; intro w hSw; (try dsimp only at hSw); (go_simp <;> with_reducible rfl))
    case h5a5_ => exact fun _ _ _ h => h
    try simp only [Act.put, List.setIfInBounds_toArray, List.set_cons_zero, List.set_cons_succ]
    refine wpAnyH_ready (rs := [4]) (by kernel_rfl) (by simp) (AllReadyH.cons (o := ?ooa6_q0) ?hia6_q0 (fun K hK => ?hka6_q0) AllReadyH.nil)
    case hia6_q0 => (simp only [List.getElem?_toArray, List.getElem?_cons_succ, List.getElem?_cons_zero]; rfl)
    case hka6_q0 =>
      (rw [if_pos (by rfl)]; go_simp; refine (CS2.out _).mono ?_; rintro e p_2_ ⟨⟨a1_2, c1_2, a2_2, c2_2, a3_2, c3_2, a4_2, c4_2⟩, rfl, O_2, hb⟩; have I_2 := O_2.is; clear O_2; go_wp2_with fail; refine hK.out _ _ (HMK1.out _ (bel_tr hHeld.2 hb)) (fun hHeld => ?_); clear hK K)
      try simp only [Act.put, List.setIfInBounds_toArray, List.set_cons_zero, List.set_cons_succ]
      refine wpAnyH_ready (rs := [5]) (by kernel_rfl) (by simp) (AllReadyH.cons (o := ?ooa7_q0) ?hia7_q0 (fun K hK => ?hka7_q0) AllReadyH.nil)
      case hia7_q0 => (simp only [List.getElem?_toArray, List.getElem?_cons_succ, List.getElem?_cons_zero]; rfl)
      case hka7_q0 =>
        (rw [if_pos (by rfl)]; go_simp; refine (eqTw ⟨a1_1, c1_1, a2_1, c2_1, a3_1, c3_1, a4_1, c4_1⟩ ⟨a1_2, c1_2, a2_2, c2_2, a3_2, c3_2, a4_2, c4_2⟩ ⟨[], [], [], 0, 0, [], 0, 0, 0, 0⟩ _ (tw_below I1 hHeld.2) I_2).mono ?_; rintro e r_2_ ⟨rfl, hb⟩; go_wp2_with fail; refine hK.out _ _ (HMK1.out _ (bel_tr hHeld.2 hb)) (fun hHeld => ?_); clear hK K)
        try simp only [Act.put, List.setIfInBounds_toArray, List.set_cons_zero, List.set_cons_succ]
        refine wpAnyH_take (i := 6) (oi := ?ooa8_) (v := ?vva8_) ?hia8_ (by kernel_rfl) ?h3a8_ ?h4a8_ ?h5a8_ ?h6a8_ (by assumption) ?h8a8_
        case hia8_ => (simp only [List.getElem?_toArray, List.getElem?_cons_succ, List.getElem?_cons_zero]; rfl)
        case h3a8_ => kernel_rfl
        case h4a8_ => kernel_rfl
        case h6a8_ => (refine Or.inl ⟨by rfl, ?_⟩; intro w hSw; (try dsimp only at hSw); (go_simp <;> with_reducible rfl))
        case h5a8_ => exact fun _ _ _ h => h
        try simp only [Act.put, List.setIfInBounds_toArray, List.set_cons_zero, List.set_cons_succ]
        refine wpAnyH_take (i := 7) (oi := ?ooa9_) (v := ?vva9_) ?hia9_ (by kernel_rfl) ?h3a9_ ?h4a9_ ?h5a9_ ?h6a9_ (by assumption) ?h8a9_
        case hia9_ => (simp only [List.getElem?_toArray, List.getElem?_cons_succ, List.getElem?_cons_zero]; rfl)
        case h3a9_ => kernel_rfl
        case h4a9_ => kernel_rfl
        case h6a9_ => (refine Or.inl ⟨by rfl, ?_⟩; intro w hSw; (try dsimp only at hSw); (go_simp <;> with_reducible rfl))
        case h5a9_ => exact fun _ _ _ h => h
        try simp only [Act.put, List.setIfInBounds_toArray, List.set_cons_zero, List.set_cons_succ]
        refine wpAnyH_take (i := 8) (oi := ?ooa10_) (v := ?vva10_) ?hia10_ (by kernel_rfl) ?h3a10_ ?h4a10_ ?h5a10_ ?h6a10_ (by assumption) ?h8a10_
        case hia10_ => (simp only [List.getElem?_toArray, List.getElem?_cons_succ, List.getElem?_cons_zero]; rfl)
        case h3a10_ => kernel_rfl
        case h4a10_ => kernel_rfl
        case h6a10_ => (refine Or.inl ⟨by rfl, ?_⟩; intro w hSw; (try dsimp only at hSw); (go_simp <;> with_reducible rfl))
        case h5a10_ => exact fun _ _ _ h => h
        try simp only [Act.put, List.setIfInBounds_toArray, List.set_cons_zero, List.set_cons_succ]
        refine wpAnyH_take (i := 9) (oi := ?ooa11_) (v := ?vva11_) ?hia11_ (by kernel_rfl) ?h3a11_ ?h4a11_ ?h5a11_ ?h6a11_ (by assumption) ?h8a11_
        case hia11_ => (simp only [List.getElem?_toArray, List.getElem?_cons_succ, List.getElem?_cons_zero]; rfl)
        case h3a11_ => kernel_rfl
        case h4a11_ => kernel_rfl
        case h6a11_ => (refine Or.inl ⟨by rfl, ?_⟩; intro w hSw; (try dsimp only at hSw); (go_simp <;> with_reducible rfl))
        case h5a11_ => exact fun _ _ _ h => h
        try simp only [Act.put, List.setIfInBounds_toArray, List.set_cons_zero, List.set_cons_succ]
        refine wpAnyH_take (i := 10) (oi := ?ooa12_) (v := ?vva12_) ?hia12_ (by kernel_rfl) ?h3a12_ ?h4a12_ ?h5a12_ ?h6a12_ (by assumption) ?h8a12_
        case hia12_ => (simp only [List.getElem?_toArray, List.getElem?_cons_succ, List.getElem?_cons_zero]; rfl)
        case h3a12_ => kernel_rfl
        case h4a12_ => kernel_rfl
        case h6a12_ => (refine Or.inl ⟨by rfl, ?_⟩; intro w hSw; (try dsimp only at hSw); (go_simp <;> with_reducible rfl))
        case h5a12_ => exact fun _ _ _ h => h
        try simp only [Act.put, List.setIfInBounds_toArray, List.set_cons_zero, List.set_cons_succ]
        refine wpAnyH_take (i := 11) (oi := ?ooa13_) (v := ?vva13_) ?hia13_ (by kernel_rfl) ?h3a13_ ?h4a13_ ?h5a13_ ?h6a13_ (by assumption) ?h8a13_
        case hia13_ => (simp only [List.getElem?_toArray, List.getElem?_cons_succ, List.getElem?_cons_zero]; rfl)
        case h3a13_ => kernel_rfl
        case h4a13_ => kernel_rfl
        case h6a13_ => (refine Or.inl ⟨by rfl, ?_⟩; intro w hSw; (try dsimp only at hSw); (go_simp <;> with_reducible rfl))
        case h5a13_ => exact fun _ _ _ h => h
        try simp only [Act.put, List.setIfInBounds_toArray, List.set_cons_zero, List.set_cons_succ]
        refine wpAnyH_take (i := 12) (oi := ?ooa14_) (v := ?vva14_) ?hia14_ (by kernel_rfl) ?h3a14_ ?h4a14_ ?h5a14_ ?h6a14_ (by assumption) ?h8a14_
        case hia14_ => (simp only [List.getElem?_toArray, List.getElem?_cons_succ, List.getElem?_cons_zero]; rfl)
        case h3a14_ => kernel_rfl
        case h4a14_ => kernel_rfl
        case h6a14_ => (refine Or.inl ⟨by rfl, ?_⟩; intro w hSw; (try dsimp only at hSw); (go_simp <;> with_reducible rfl))
        case h5a14_ => exact fun _ _ _ h => h
        try simp only [Act.put, List.setIfInBounds_toArray, List.set_cons_zero, List.set_cons_succ]
        refine wpAnyH_done (by kernel_rfl) ?_ _
        clear HMK1
        have HH := hHeld.2
        clear hHeld q1_0 q1_1 q1_2 q1_3 q1_4 q1_5 q1_6 q1_7 q1_8 q1_9
        replace B := bel_tr B HH
        replace K1 := K1.next HH
        replace I1 := tw_below I1 HH
        clear HH
        obtain ⟨q1_0, q1_1, q1_2, q1_3, q1_4, q1_5, q1_6, q1_7, q1_8, q1_9⟩ := town_cells K1
        clear I_2
        go_wp2_with fail
        have HMK15 := Lib.hid (fun (W : World) (hW : Below r_2_.heap.size r_2_ W) => (⟨⟨(hW.cell (p := ⟨u2.heap.size, 0, none⟩) (K1.lt)).trans q1_0, (hW.cell (p := ⟨u2.heap.size, 1, none⟩) (K1.lt)).trans q1_1, (hW.cell (p := ⟨u2.heap.size, 2, none⟩) (K1.lt)).trans q1_2, (hW.cell (p := ⟨u2.heap.size, 3, none⟩) (K1.lt)).trans q1_3, (hW.cell (p := ⟨u2.heap.size, 4, none⟩) (K1.lt)).trans q1_4, (hW.cell (p := ⟨u2.heap.size, 5, none⟩) (K1.lt)).trans q1_5, (hW.cell (p := ⟨u2.heap.size, 6, none⟩) (K1.lt)).trans q1_6, (hW.cell (p := ⟨u2.heap.size, 7, none⟩) (K1.lt)).trans q1_7, (hW.cell (p := ⟨u2.heap.size, 8, none⟩) (K1.lt)).trans q1_8, (hW.cell (p := ⟨u2.heap.size, 9, none⟩) (K1.lt)).trans q1_9⟩, hW⟩ : (W.cell? ⟨u2.heap.size, 0, none⟩ = some (.slice a1_1 0 c1_1) ∧ W.cell? ⟨u2.heap.size, 1, none⟩ = some (.slice a2_1 0 c2_1) ∧ W.cell? ⟨u2.heap.size, 2, none⟩ = some (.slice a3_1 0 c3_1) ∧ W.cell? ⟨u2.heap.size, 3, none⟩ = some (.int .i64 0) ∧ W.cell? ⟨u2.heap.size, 4, none⟩ = some (.int .i64 0) ∧ W.cell? ⟨u2.heap.size, 5, none⟩ = some (.slice a4_1 0 c4_1) ∧ W.cell? ⟨u2.heap.size, 6, none⟩ = some (.int .i64 0) ∧ W.cell? ⟨u2.heap.size, 7, none⟩ = some (.int .i64 0) ∧ W.cell? ⟨u2.heap.size, 8, none⟩ = some (.int .i64 0) ∧ W.cell? ⟨u2.heap.size, 9, none⟩ = some (.int .i64 0)) ∧ Below r_2_.heap.size r_2_ W))
        refine wp_region_held_drew (S := (fun w' => (w'.cell? ⟨u2.heap.size, 0, none⟩ = some (.slice a1_1 0 c1_1) ∧ w'.cell? ⟨u2.heap.size, 1, none⟩ = some (.slice a2_1 0 c2_1) ∧ w'.cell? ⟨u2.heap.size, 2, none⟩ = some (.slice a3_1 0 c3_1) ∧ w'.cell? ⟨u2.heap.size, 3, none⟩ = some (.int .i64 0) ∧ w'.cell? ⟨u2.heap.size, 4, none⟩ = some (.int .i64 0) ∧ w'.cell? ⟨u2.heap.size, 5, none⟩ = some (.slice a4_1 0 c4_1) ∧ w'.cell? ⟨u2.heap.size, 6, none⟩ = some (.int .i64 0) ∧ w'.cell? ⟨u2.heap.size, 7, none⟩ = some (.int .i64 0) ∧ w'.cell? ⟨u2.heap.size, 8, none⟩ = some (.int .i64 0) ∧ w'.cell? ⟨u2.heap.size, 9, none⟩ = some (.int .i64 0)) ∧ Below r_2_.heap.size r_2_ w')) (by kernel_rfl) ?_ (fun hHeld => ?_)
        · exact ⟨⟨q1_0, q1_1, q1_2, q1_3, q1_4, q1_5, q1_6, q1_7, q1_8, q1_9⟩, (Below.refl _ _).drew⟩
        refine wpAnyH_take (i := 0) (oi := ?ooa16_) (v := ?vva16_) ?hia16_ (by kernel_rfl) ?h3a16_ ?h4a16_ ?h5a16_ ?h6a16_ (by assumption) ?h8a16_
        case hia16_ => (simp only [List.getElem?_toArray, List.getElem?_cons_succ, List.getElem?_cons_zero]; rfl)
        case h3a16_ => kernel_rfl
        case h4a16_ => kernel_rfl
        case h6a16_ => (refine Or.inl ⟨by rfl, ?_⟩; intro w hSw; (try dsimp only at hSw); (go_simp <;> with_reducible rfl))
        case h5a16_ => exact fun _ _ _ h => h
        try simp only [Act.put, List.setIfInBounds_toArray, List.set_cons_zero, List.set_cons_succ]
        refine wpAnyH_take (i := 1) (oi := ?ooa17_) (v := ?vva17_) ?hia17_ (by kernel_rfl) ?h3a17_ ?h4a17_ ?h5a17_ ?h6a17_ (by assumption) ?h8a17_
        case hia17_ => (simp only [List.getElem?_toArray, List.getElem?_cons_succ, List.getElem?_cons_zero]; rfl)
        case h3a17_ => kernel_rfl
        case h4a17_ => kernel_rfl
        case h6a17_ => (refine Or.inl ⟨by rfl, ?_⟩; intro w hSw; (try dsimp only at hSw); (go_simp <;> with_reducible rfl))
        case h5a17_ => exact fun _ _ _ h => h
        try simp only [Act.put, List.setIfInBounds_toArray, List.set_cons_zero, List.set_cons_succ]
        refine wpAnyH_take (i := 2) (oi := ?ooa18_) (v := ?vva18_) ?hia18_ (by kernel_rfl) ?h3a18_ ?h4a18_ ?h5a18_ ?h6a18_ (by assumption) ?h8a18_
        case hia18_ => (simp only [List.getElem?_toArray, List.getElem?_cons_succ, List.getElem?_cons_zero]; rfl)
        case h3a18_ => kernel_rfl
        case h4a18_ => kernel_rfl
        case h6a18_ => (refine Or.inl ⟨by rfl, ?_⟩; intro w hSw; (try dsimp only at hSw); (go_simp <;> with_reducible rfl))
        case h5a18_ => exact fun _ _ _ h => h
        try simp only [Act.put, List.setIfInBounds_toArray, List.set_cons_zero, List.set_cons_succ]
        refine wpAnyH_take (i := 3) (oi := ?ooa19_) (v := ?vva19_) ?hia19_ (by kernel_rfl) ?h3a19_ ?h4a19_ ?h5a19_ ?h6a19_ (by assumption) ?h8a19_
        case hia19_ => (simp only [List.getElem?_toArray, List.getElem?_cons_succ, List.getElem?_cons_zero]; rfl)
        case h3a19_ => kernel_rfl
        case h4a19_ => kernel_rfl
        case h6a19_ => (refine Or.inl ⟨by rfl, ?_⟩; intro w hSw; (try dsimp only at hSw); (go_simp <;> with_reducible rfl))
        case h5a19_ => exact fun _ _ _ h => h
        try simp only [Act.put, List.setIfInBounds_toArray, List.set_cons_zero, List.set_cons_succ]
        refine wpAnyH_ready (rs := [4]) (by kernel_rfl) (by simp) (AllReadyH.cons (o := ?ooa20_q0) ?hia20_q0 (fun K hK => ?hka20_q0) AllReadyH.nil)
        case hia20_q0 => (simp only [List.getElem?_toArray, List.getElem?_cons_succ, List.getElem?_cons_zero]; rfl)
        case hka20_q0 =>
          (rw [if_pos (by rfl)]; go_simp; refine (CS2.out _).mono ?_; rintro e p_3_ ⟨⟨a1_3, c1_3, a2_3, c2_3, a3_3, c3_3, a4_3, c4_3⟩, rfl, O_3, hb⟩; have I_3 := O_3.is; clear O_3; go_wp2_with fail; refine hK.out _ _ (HMK15.out _ (bel_tr hHeld.2 hb)) (fun hHeld => ?_); clear hK K)
          try simp only [Act.put, List.setIfInBounds_toArray, List.set_cons_zero, List.set_cons_succ]
          refine wpAnyH_ready (rs := [5]) (by kernel_rfl) (by simp) (AllReadyH.cons (o := ?ooa21_q0) ?hia21_q0 (fun K hK => ?hka21_q0) AllReadyH.nil)
          case hia21_q0 => (simp only [List.getElem?_toArray, List.getElem?_cons_succ, List.getElem?_cons_zero]; rfl)
          case hka21_q0 =>
            (rw [if_pos (by rfl)]; go_simp; refine (eqTw ⟨a1_1, c1_1, a2_1, c2_1, a3_1, c3_1, a4_1, c4_1⟩ ⟨a1_3, c1_3, a2_3, c2_3, a3_3, c3_3, a4_3, c4_3⟩ ⟨[], [], [], 0, 0, [], 0, 0, 0, 0⟩ _ (tw_below I1 hHeld.2) I_3).mono ?_; rintro e r_3_ ⟨rfl, hb⟩; go_wp2_with fail; refine hK.out _ _ (HMK15.out _ (bel_tr hHeld.2 hb)) (fun hHeld => ?_); clear hK K)
            try simp only [Act.put, List.setIfInBounds_toArray, List.set_cons_zero, List.set_cons_succ]
            refine wpAnyH_take (i := 6) (oi := ?ooa22_) (v := ?vva22_) ?hia22_ (by kernel_rfl) ?h3a22_ ?h4a22_ ?h5a22_ ?h6a22_ (by assumption) ?h8a22_
            case hia22_ => (simp only [List.getElem?_toArray, List.getElem?_cons_succ, List.getElem?_cons_zero]; rfl)
            case h3a22_ => kernel_rfl
            case h4a22_ => kernel_rfl
            case h6a22_ => (refine Or.inl ⟨by rfl, ?_⟩; intro w hSw; (try dsimp only at hSw); (go_simp <;> with_reducible rfl))
            case h5a22_ => exact fun _ _ _ h => h
            try simp only [Act.put, List.setIfInBounds_toArray, List.set_cons_zero, List.set_cons_succ]
            refine wpAnyH_done (by kernel_rfl) ?_ _
            clear HMK15
            have B3 := bel_tr B hHeld.2
            clear hHeld
            go_wp2_with fail
            go_ret
            exact ⟨rfl, B3⟩
  | true =>
    have hv := (new_ok hc).2
    rw [(new_ok hc).1] at CS CI hv
    simp only [Bool.and_eq_true] at hc
    obtain ⟨o1, o2⟩ := inB3_yes hc.1
    have HSH := Lib.hid (new_share o1 o2)
    have HWH := Lib.hid (new_who o1 o2)
    have HV := Lib.hid hv
    have CS2 := CS
    have CI2 := CI
    clear CS CI hc hv
    go_wp2_with fail
    refine (CI2.out _).mono ?_
    intro e u2 h_
    obtain ⟨a1_1, c1_1, a2_1, c2_1, a3_1, c3_1, a4_1, c4_1, rfl, O_1, C⟩ := outTw_lit h_
    clear h_
    replace B := bel_tr B C
    clear C
    have CA := (Below.refl _ u2).alloc (Nat.le_refl _) (.cells #[.slice a1_1 1 c1_1, .slice a2_1 1 c2_1, .slice a3_1 1 c3_1, .int .i64 x, .int .i64 0, .slice a4_1 0 c4_1, .int .i64 y, .int .i64 0, .int .i64 0, .int .i64 0] 38)
    replace O_1 := O_1.next CA
    have K1 := Blk.new u2 38 #[.slice a1_1 1 c1_1, .slice a2_1 1 c2_1, .slice a3_1 1 c3_1, .int .i64 x, .int .i64 0, .slice a4_1 0 c4_1, .int .i64 y, .int .i64 0, .int .i64 0, .int .i64 0]
    replace B := bel_tr B CA
    obtain ⟨q1_0, q1_1, q1_2, q1_3, q1_4, q1_5, q1_6, q1_7, q1_8, q1_9⟩ := town_cells K1
    go_wp2_with fail
    generalize u2.alloc (.cells #[.slice a1_1 1 c1_1, .slice a2_1 1 c2_1, .slice a3_1 1 c3_1, .int .i64 x, .int .i64 0, .slice a4_1 0 c4_1, .int .i64 y, .int .i64 0, .int .i64 0, .int .i64 0] 38) = u3 at B CA K1 O_1 q1_0 q1_1 q1_2 q1_3 q1_4 q1_5 q1_6 q1_7 q1_8 q1_9 ⊢
    have I1 := O_1.is
    clear CA O_1
    have HUN : Hid (unV ⟨[(o, 1, 1)], [(o, 24)], [(-1, 0, 0, 500, 0)], x, 0, [], y, 0, 0, 0⟩ o = 0) := by show unV ⟨[(o, 1, 1)], [(o, 24)], [(-1, 0, 0, 500, 0)], x, 0, [], y, 0, 0, 0⟩ o = 0; unfold unV; rw [HV.out]; rfl
    have eo : (o == o) = true := by simp
    have HMK23 := Lib.hid (fun (W : World) (hW : Below u3.heap.size u3 W) => (⟨⟨(hW.cell (p := ⟨u2.heap.size, 0, none⟩) (K1.lt)).trans q1_0, (hW.cell (p := ⟨u2.heap.size, 1, none⟩) (K1.lt)).trans q1_1, (hW.cell (p := ⟨u2.heap.size, 2, none⟩) (K1.lt)).trans q1_2, (hW.cell (p := ⟨u2.heap.size, 3, none⟩) (K1.lt)).trans q1_3, (hW.cell (p := ⟨u2.heap.size, 4, none⟩) (K1.lt)).trans q1_4, (hW.cell (p := ⟨u2.heap.size, 5, none⟩) (K1.lt)).trans q1_5, (hW.cell (p := ⟨u2.heap.size, 6, none⟩) (K1.lt)).trans q1_6, (hW.cell (p := ⟨u2.heap.size, 7, none⟩) (K1.lt)).trans q1_7, (hW.cell (p := ⟨u2.heap.size, 8, none⟩) (K1.lt)).trans q1_8, (hW.cell (p := ⟨u2.heap.size, 9, none⟩) (K1.lt)).trans q1_9⟩, hW⟩ : (W.cell? ⟨u2.heap.size, 0, none⟩ = some (.slice a1_1 1 c1_1) ∧ W.cell? ⟨u2.heap.size, 1, none⟩ = some (.slice a2_1 1 c2_1) ∧ W.cell? ⟨u2.heap.size, 2, none⟩ = some (.slice a3_1 1 c3_1) ∧ W.cell? ⟨u2.heap.size, 3, none⟩ = some (.int .i64 x) ∧ W.cell? ⟨u2.heap.size, 4, none⟩ = some (.int .i64 0) ∧ W.cell? ⟨u2.heap.size, 5, none⟩ = some (.slice a4_1 0 c4_1) ∧ W.cell? ⟨u2.heap.size, 6, none⟩ = some (.int .i64 y) ∧ W.cell? ⟨u2.heap.size, 7, none⟩ = some (.int .i64 0) ∧ W.cell? ⟨u2.heap.size, 8, none⟩ = some (.int .i64 0) ∧ W.cell? ⟨u2.heap.size, 9, none⟩ = some (.int .i64 0)) ∧ Below u3.heap.size u3 W))
    refine wp_region_held_drew (S := (fun w' => (w'.cell? ⟨u2.heap.size, 0, none⟩ = some (.slice a1_1 1 c1_1) ∧ w'.cell? ⟨u2.heap.size, 1, none⟩ = some (.slice a2_1 1 c2_1) ∧ w'.cell? ⟨u2.heap.size, 2, none⟩ = some (.slice a3_1 1 c3_1) ∧ w'.cell? ⟨u2.heap.size, 3, none⟩ = some (.int .i64 x) ∧ w'.cell? ⟨u2.heap.size, 4, none⟩ = some (.int .i64 0) ∧ w'.cell? ⟨u2.heap.size, 5, none⟩ = some (.slice a4_1 0 c4_1) ∧ w'.cell? ⟨u2.heap.size, 6, none⟩ = some (.int .i64 y) ∧ w'.cell? ⟨u2.heap.size, 7, none⟩ = some (.int .i64 0) ∧ w'.cell? ⟨u2.heap.size, 8, none⟩ = some (.int .i64 0) ∧ w'.cell? ⟨u2.heap.size, 9, none⟩ = some (.int .i64 0)) ∧ Below u3.heap.size u3 w')) (by kernel_rfl) ?_ (fun hHeld => ?_)
    · exact ⟨⟨q1_0, q1_1, q1_2, q1_3, q1_4, q1_5, q1_6, q1_7, q1_8, q1_9⟩, (Below.refl _ _).drew⟩
    refine wpAnyH_take (i := 0) (oi := ?ooa24_) (v := ?vva24_) ?hia24_ (by kernel_rfl) ?h3a24_ ?h4a24_ ?h5a24_ ?h6a24_ (by assumption) ?h8a24_
    case hia24_ => (simp only [List.getElem?_toArray, List.getElem?_cons_succ, List.getElem?_cons_zero]; rfl)
    case h3a24_ => kernel_rfl
    case h4a24_ => kernel_rfl
    case h6a24_ => (refine Or.inl ⟨by rfl, ?_⟩; intro w hSw; (try dsimp only at hSw); (go_simp <;> with_reducible rfl))
    case h5a24_ => exact fun _ _ _ h => h
    try simp only [Act.put, List.setIfInBounds_toArray, List.set_cons_zero, List.set_cons_succ]
    refine wpAnyH_take (i := 1) (oi := ?ooa25_) (v := ?vva25_) ?hia25_ (by kernel_rfl) ?h3a25_ ?h4a25_ ?h5a25_ ?h6a25_ (by assumption) ?h8a25_
    case hia25_ => (simp only [List.getElem?_toArray, List.getElem?_cons_succ, List.getElem?_cons_zero]; rfl)
    case h3a25_ => kernel_rfl
    case h4a25_ => kernel_rfl
    case h6a25_ => (refine Or.inl ⟨by rfl, ?_⟩; intro w hSw; (try dsimp only at hSw); (go_simp <;> with_reducible rfl))
    case h5a25_ => exact fun _ _ _ h => h
    try simp only [Act.put, List.setIfInBounds_toArray, List.set_cons_zero, List.set_cons_succ]
    refine wpAnyH_take (i := 2) (oi := ?ooa26_) (v := ?vva26_) ?hia26_ (by kernel_rfl) ?h3a26_ ?h4a26_ ?h5a26_ ?h6a26_ (by assumption) ?h8a26_
    case hia26_ => (simp only [List.getElem?_toArray, List.getElem?_cons_succ, List.getElem?_cons_zero]; rfl)
    case h3a26_ => kernel_rfl
    case h4a26_ => kernel_rfl
    case h6a26_ => (refine Or.inl ⟨by rfl, ?_⟩; intro w hSw; (try dsimp only at hSw); (go_simp <;> with_reducible rfl))
    case h5a26_ => exact fun _ _ _ h => h
    try simp only [Act.put, List.setIfInBounds_toArray, List.set_cons_zero, List.set_cons_succ]
    refine wpAnyH_take (i := 3) (oi := ?ooa27_) (v := ?vva27_) ?hia27_ (by kernel_rfl) ?h3a27_ ?h4a27_ ?h5a27_ ?h6a27_ (by assumption) ?h8a27_
    case hia27_ => (simp only [List.getElem?_toArray, List.getElem?_cons_succ, List.getElem?_cons_zero]; rfl)
    case h3a27_ => kernel_rfl
    case h4a27_ => kernel_rfl
    case h6a27_ => (refine Or.inl ⟨by rfl, ?_⟩; intro w hSw; (try dsimp only at hSw); (go_simp <;> with_reducible rfl))
    case h5a27_ => exact fun _ _ _ h => h
    try simp only [Act.put, List.setIfInBounds_toArray, List.set_cons_zero, List.set_cons_succ]
    refine wpAnyH_ready (rs := [4]) (by kernel_rfl) (by simp) (AllReadyH.cons (o := ?ooa28_q0) ?hia28_q0 (fun K hK => ?hka28_q0) AllReadyH.nil)
    case hia28_q0 => (simp only [List.getElem?_toArray, List.getElem?_cons_succ, List.getElem?_cons_zero]; rfl)
    case hka28_q0 =>
      (rw [if_pos (by rfl)]; go_simp; refine (CS2.out _).mono ?_; rintro e p_2_ ⟨⟨a1_2, c1_2, a2_2, c2_2, a3_2, c3_2, a4_2, c4_2⟩, rfl, O_2, hb⟩; have I_2 := O_2.is; clear O_2; go_wp2_with fail; refine hK.out _ _ (HMK23.out _ (bel_tr hHeld.2 hb)) (fun hHeld => ?_); clear hK K)
      try simp only [Act.put, List.setIfInBounds_toArray, List.set_cons_zero, List.set_cons_succ]
      refine wpAnyH_ready (rs := [5]) (by kernel_rfl) (by simp) (AllReadyH.cons (o := ?ooa29_q0) ?hia29_q0 (fun K hK => ?hka29_q0) AllReadyH.nil)
      case hia29_q0 => (simp only [List.getElem?_toArray, List.getElem?_cons_succ, List.getElem?_cons_zero]; rfl)
      case hka29_q0 =>
        (rw [if_pos (by rfl)]; go_simp; refine (eqTw ⟨a1_1, c1_1, a2_1, c2_1, a3_1, c3_1, a4_1, c4_1⟩ ⟨a1_2, c1_2, a2_2, c2_2, a3_2, c3_2, a4_2, c4_2⟩ ⟨[(o, 1, 1)], [(o, 24)], [(-1, 0, 0, 500, 0)], x, 0, [], y, 0, 0, 0⟩ _ (tw_below I1 hHeld.2) I_2).mono ?_; rintro e r_2_ ⟨rfl, hb⟩; go_wp2_with fail; refine hK.out _ _ (HMK23.out _ (bel_tr hHeld.2 hb)) (fun hHeld => ?_); clear hK K)
        try simp only [Act.put, List.setIfInBounds_toArray, List.set_cons_zero, List.set_cons_succ]
        refine wpAnyH_take (i := 6) (oi := ?ooa30_) (v := ?vva30_) ?hia30_ (by kernel_rfl) ?h3a30_ ?h4a30_ ?h5a30_ ?h6a30_ (by assumption) ?h8a30_
        case hia30_ => (simp only [List.getElem?_toArray, List.getElem?_cons_succ, List.getElem?_cons_zero]; rfl)
        case h3a30_ => kernel_rfl
        case h4a30_ => kernel_rfl
        case h6a30_ => (refine Or.inl ⟨by rfl, ?_⟩; intro w hSw; (try dsimp only at hSw); (go_simp <;> with_reducible rfl))
        case h5a30_ => exact fun _ _ _ h => h
        try simp only [Act.put, List.setIfInBounds_toArray, List.set_cons_zero, List.set_cons_succ]
        refine wpAnyH_take (i := 7) (oi := ?ooa31_) (v := ?vva31_) ?hia31_ (by kernel_rfl) ?h3a31_ ?h4a31_ ?h5a31_ ?h6a31_ (by assumption) ?h8a31_
        case hia31_ => (simp only [List.getElem?_toArray, List.getElem?_cons_succ, List.getElem?_cons_zero]; rfl)
        case h3a31_ => kernel_rfl
        case h4a31_ => kernel_rfl
        case h6a31_ => (refine Or.inl ⟨by rfl, ?_⟩; intro w hSw; (try dsimp only at hSw); (go_simp <;> with_reducible rfl))
        case h5a31_ => exact fun _ _ _ h => h
        try simp only [Act.put, List.setIfInBounds_toArray, List.set_cons_zero, List.set_cons_succ]
        refine wpAnyH_take (i := 8) (oi := ?ooa32_) (v := ?vva32_) ?hia32_ (by kernel_rfl) ?h3a32_ ?h4a32_ ?h5a32_ ?h6a32_ (by assumption) ?h8a32_
        case hia32_ => (simp only [List.getElem?_toArray, List.getElem?_cons_succ, List.getElem?_cons_zero]; rfl)
        case h3a32_ => kernel_rfl
        case h4a32_ => kernel_rfl
        case h6a32_ => (refine Or.inl ⟨by rfl, ?_⟩; intro w hSw; (try dsimp only at hSw); (go_simp <;> with_reducible rfl))
        case h5a32_ => exact fun _ _ _ h => h
        try simp only [Act.put, List.setIfInBounds_toArray, List.set_cons_zero, List.set_cons_succ]
        refine wpAnyH_take (i := 9) (oi := ?ooa33_) (v := ?vva33_) ?hia33_ (by kernel_rfl) ?h3a33_ ?h4a33_ ?h5a33_ ?h6a33_ (by assumption) ?h8a33_
        case hia33_ => (simp only [List.getElem?_toArray, List.getElem?_cons_succ, List.getElem?_cons_zero]; rfl)
        case h3a33_ => kernel_rfl
        case h4a33_ => kernel_rfl
        case h6a33_ => (refine Or.inl ⟨by rfl, ?_⟩; intro w hSw; (try dsimp only at hSw); (go_simp <;> with_reducible rfl))
        case h5a33_ => exact fun _ _ _ h => h
        try simp only [Act.put, List.setIfInBounds_toArray, List.set_cons_zero, List.set_cons_succ]
        refine wpAnyH_take (i := 10) (oi := ?ooa34_) (v := ?vva34_) ?hia34_ (by kernel_rfl) ?h3a34_ ?h4a34_ ?h5a34_ ?h6a34_ (by assumption) ?h8a34_
        case hia34_ => (simp only [List.getElem?_toArray, List.getElem?_cons_succ, List.getElem?_cons_zero]; rfl)
        case h3a34_ => kernel_rfl
        case h4a34_ => kernel_rfl
        case h6a34_ => (refine Or.inl ⟨by rfl, ?_⟩; intro w hSw; (try dsimp only at hSw); (go_simp <;> with_reducible rfl))
        case h5a34_ => exact fun _ _ _ h => h
        try simp only [Act.put, List.setIfInBounds_toArray, List.set_cons_zero, List.set_cons_succ]
        refine wpAnyH_take (i := 11) (oi := ?ooa35_) (v := ?vva35_) ?hia35_ (by kernel_rfl) ?h3a35_ ?h4a35_ ?h5a35_ ?h6a35_ (by assumption) ?h8a35_
        case hia35_ => (simp only [List.getElem?_toArray, List.getElem?_cons_succ, List.getElem?_cons_zero]; rfl)
        case h3a35_ => kernel_rfl
        case h4a35_ => kernel_rfl
        case h6a35_ => (refine Or.inl ⟨by rfl, ?_⟩; intro w hSw; (try dsimp only at hSw); (go_simp <;> with_reducible rfl))
        case h5a35_ => exact fun _ _ _ h => h
        try simp only [Act.put, List.setIfInBounds_toArray, List.set_cons_zero, List.set_cons_succ]
        refine wpAnyH_take (i := 12) (oi := ?ooa36_) (v := ?vva36_) ?hia36_ (by kernel_rfl) ?h3a36_ ?h4a36_ ?h5a36_ ?h6a36_ (by assumption) ?h8a36_
        case hia36_ => (simp only [List.getElem?_toArray, List.getElem?_cons_succ, List.getElem?_cons_zero]; rfl)
        case h3a36_ => kernel_rfl
        case h4a36_ => kernel_rfl
        case h6a36_ => (refine Or.inl ⟨by rfl, ?_⟩; intro w hSw; (try dsimp only at hSw); (go_simp <;> with_reducible rfl))
        case h5a36_ => exact fun _ _ _ h => h
        try simp only [Act.put, List.setIfInBounds_toArray, List.set_cons_zero, List.set_cons_succ]
        refine wpAnyH_done (by kernel_rfl) ?_ _
        clear HMK23
        have HH := hHeld.2
        clear hHeld q1_0 q1_1 q1_2 q1_3 q1_4 q1_5 q1_6 q1_7 q1_8 q1_9
        replace B := bel_tr B HH
        replace K1 := K1.next HH
        replace I1 := tw_below I1 HH
        clear HH
        obtain ⟨q1_0, q1_1, q1_2, q1_3, q1_4, q1_5, q1_6, q1_7, q1_8, q1_9⟩ := town_cells K1
        clear I_2
        go_wp2_with fail
        refine (iVTw ⟨a1_1, c1_1, a2_1, c2_1, a3_1, c3_1, a4_1, c4_1⟩ ⟨[(o, 1, 1)], [(o, 24)], [(-1, 0, 0, 500, 0)], x, 0, [], y, 0, 0, 0⟩ _ I1).mono ?_
        rintro e v0 ⟨rfl, C⟩
        rw [HV.out]
        replace B := bel_tr B C
        replace K1 := K1.next C
        replace I1 := tw_below I1 C
        clear C q1_0 q1_1 q1_2 q1_3 q1_4 q1_5 q1_6 q1_7 q1_8 q1_9
        obtain ⟨q1_0, q1_1, q1_2, q1_3, q1_4, q1_5, q1_6, q1_7, q1_8, q1_9⟩ := town_cells K1
        go_wp2_with fail
        refine (iShareOf a1_1 c1_1 [(o, 1, 1)] o _ I1.h1 (by simp)).mono ?_
        rintro e v1 ⟨rfl, C⟩
        rw [HSH.out]
        replace B := bel_tr B C
        replace K1 := K1.next C
        replace I1 := tw_below I1 C
        clear C q1_0 q1_1 q1_2 q1_3 q1_4 q1_5 q1_6 q1_7 q1_8 q1_9
        obtain ⟨q1_0, q1_1, q1_2, q1_3, q1_4, q1_5, q1_6, q1_7, q1_8, q1_9⟩ := town_cells K1
        go_wp2_with fail
        refine (iWhoAt a2_1 c2_1 [(o, 24)] 77 _ I1.h2 (by simp) I1.k2 rfl).mono ?_
        rintro e v2 ⟨rfl, C⟩
        rw [HWH.out]
        replace B := bel_tr B C
        replace K1 := K1.next C
        replace I1 := tw_below I1 C
        clear C q1_0 q1_1 q1_2 q1_3 q1_4 q1_5 q1_6 q1_7 q1_8 q1_9
        obtain ⟨q1_0, q1_1, q1_2, q1_3, q1_4, q1_5, q1_6, q1_7, q1_8, q1_9⟩ := town_cells K1
        go_wp2_with fail
        refine (iUnitsTo ⟨a1_1, c1_1, a2_1, c2_1, a3_1, c3_1, a4_1, c4_1⟩ ⟨[(o, 1, 1)], [(o, 24)], [(-1, 0, 0, 500, 0)], x, 0, [], y, 0, 0, 0⟩ o _ I1).mono ?_
        rintro e v3 ⟨rfl, C⟩
        rw [HUN.out]
        replace B := bel_tr B C
        replace K1 := K1.next C
        replace I1 := tw_below I1 C
        clear C q1_0 q1_1 q1_2 q1_3 q1_4 q1_5 q1_6 q1_7 q1_8 q1_9
        obtain ⟨q1_0, q1_1, q1_2, q1_3, q1_4, q1_5, q1_6, q1_7, q1_8, q1_9⟩ := town_cells K1
        go_wp2_with fail
        go_ret
        exact ⟨ret_bool (by simp), B⟩

set_option maxRecDepth 100000 in
theorem lifted (os : Os) (started : os.Started) (H : Type) (enc : TypeId × Value → H) :
    ReturnsInHanded {} Try.checked os 6 .any (Rows.fnNewTownSpec.pre6 enc Try.prog Try.f6 Rows.fnNewTownRow.domain false) (Rows.fnNewTownSpec.post enc Try.prog Try.f6 false true false false) := by
  refine returnsInHanded_of_change (C := Try.checked) own started (by kernel_rfl) Try.func6
    (ChangeSpec.witness6 (enc := enc) (C := Try.checked) false ⟨#[], #[.slice none 0 0], []⟩ 8 (by kernel_rfl) (by kernel_rfl) (by kernel_rfl) (by kernel_rfl)) ?_
  intro W base args ds gs before hval0 hW hcnd _
  have hval : ∀ (j : Nat) t v, Try.f6.params[j]? = some t → args[j]? = some v → Value.okWide Try.prog W .any base t v := hval0
  have hW' := hW
  obtain ⟨p, q, hA0, hV, rfl, hfz, hnd⟩ := hW
  have hA : DataW.TrodAll enc Try.prog W 0 (fun _ => true) true Try.f6.params.toList args.toList ds p := hA0
  rw [Try.params6] at hA hval
  obtain ⟨v0, vs0, e0, es0, p0, q0, hargs, rfl, rfl, h0, r0⟩ := trodAll_cons hA
  obtain ⟨rfl, rfl, rfl⟩ := trodAll_nil r0
  obtain rfl : args = #[v0] := by cases args; simp_all
  obtain ⟨rfl, rfl⟩ := trodVars_none hV
  have k0 := h0
  have lt0 : ∀ x ∈ p0, x.block < W.heap.size := by obtain ⟨m, hm⟩ := k0; exact DataW.trod_lt m _ _ _ hm
  obtain ⟨a0, len0, cap0, rfl⟩ := okWide_slice Try.underlying42 (hval 0 42 v0 rfl rfl)
  obtain ⟨z0, w0⟩ : ∃ zs, IsRow .u8 W a0 len0 cap0 zs := by
    obtain ⟨fuel, hf⟩ := h0
    rcases open_ints Try.underlying42 Try.underlying5 (by kernel_rfl) hf with ⟨hcs, _⟩ | ⟨x, l, c, zs, hcs, _, hl, hm, hz, _, hcell, hwz⟩
    · simp [Value.cells] at hcs
      obtain ⟨rfl, rfl, rfl⟩ := hcs
      exact ⟨[], .inl ⟨rfl, rfl, rfl, rfl⟩⟩
    · simp [Value.cells] at hcs
      obtain ⟨rfl, rfl, rfl⟩ := hcs
      exact ⟨zs, .inr ⟨_, rfl, hl, hm, by simpa using hz, hcell, hwz⟩⟩
  clear hA0 hval0
  refine (walk a0 len0 cap0 z0 W w0).mono fun e W' ⟨he, bel⟩ => ?_
  subst he
  exact ⟨_, rfl, _, _, _, [], _, [], hW', trodAll_mk1 (shut_bool Try.underlying4 _), (trodAll_cons_mk (Below.trod laidOut (by kernel_rfl) (of_decide_eq_true (by kernel_rfl)) k0 bel lt0) trodAll_mk0), rfl, bel.frame _, fun h => by cases h⟩

theorem over : Rows.fnNewTownRow.holds Try.pinned (OpenSpec.ofChange Rows.fnNewTownSpec) :=
  OpenClaim.holds_of_wide 6 Try.f6 rfl rfl rfl rfl rfl rfl rfl ⟨rfl, rfl, rfl, rfl, rfl⟩ rfl rfl rfl rfl rfl (by kernel_rfl) Try.func6 (by kernel_rfl)
    (of_decide_eq_true (by kernel_rfl)) (by unfold Func.isWrapper; first | (rw [if_pos (by decide +kernel)]; kernel_rfl) | (rw [if_neg (by decide +kernel)]; exact ⟨rfl, rfl⟩))
    (fun os started H enc _ => lifted os started H enc)

end Go.Proofs.Ytgmmdpdlekpmfaa.fnNewTown
namespace Go.Proofs.Ytgmmdpdlekpmfaa
/-- the statement -/
theorem fnNewTown_holds : Rows.FnNewTownSaid := fnNewTown.over
end Go.Proofs.Ytgmmdpdlekpmfaa
