/- For every input the law answers true, and its argument reads afterwards as before: more water lacks less. No condition. -/
import Derived.Test.YtfcgjiciobfncaaRows
import Derived.Test.YtfcgjiciobfncaaDrawBb
import Derived.Test.YtfcgjiciobfncaaEqI
import Derived.Test.YtfcgjiciobfncaaRunT
import Derived.Test.YtfcgjiciobfncaaBasQ
import Derived.WalkKit
import Derived.Deep.RegionHeld3
import Derived.Deep.DeepCutAuto
import Derived.Deep.QuietTactic
import Derived.BigQuiet
import Derived.ProofKit
import Derived.OpenShut
import Derived.ShutString
import Derived.ChangeOld
import Derived.Below
import Derived.Lib.SmallJoins
namespace Go.Proofs.Ytfcgjiciobfncaa.fnShortOf
open Go.ChangeShapes Go.WideShapes Go.ChangeAt Go.RowKit Go.Joins
open Go.ChangeMaps (open_string shut_string)
set_option linter.unusedVariables false
set_option linter.unusedSimpArgs false

theorem own : ownKnob Try.prog.godebug = none := by kernel_rfl
theorem laidOut : laidOutB Try.prog = true := by kernel_rfl

set_option maxRecDepth 100000 in
set_option maxHeartbeats 8000000 in
theorem walk (a0 : Option Addr) (len0 cap0 : Nat) (z0 : List Int) (w : World) (w0 : IsRow .u8 w a0 len0 cap0 z0) :
    Calls Try.prog 8 #[.slice a0 len0 cap0] w fun e w' => e = .returned (.bool true) ∧ Below w.heap.size w w' := by
  by_cases big : (1048576 : Int) < (len0 : Int)
  · go_enter Try.func8, Try.ntmps8
    go_wp2
    go_ret
    exact ⟨rfl, Below.refl _ _⟩
  go_enter Try.func8, Try.ntmps8
  go_wp2_with fail
  refine (drawShort a0 len0 cap0 z0 _ w0).mono ?_
  rintro e u1 ⟨r, h, b1, c1, cs, b2, c2, ws, rfl, ⟨r0, r1, h0, h1⟩, ⟨lc, hcs, O1, p1⟩, ⟨lw, hws, O2, p2⟩, B⟩
  clear w0 big
  have I1 := O1.at_
  have I2 := O2.at_
  clear O1 O2
  have nc : cs.length ≤ 1048576 := by omega
  have nw : ws.length ≤ 1048576 := by omega
  have CI : Hid (∀ (x y : Int) (W : World), IsInts W b1 cs → IsInts W b2 ws → Calls Try.prog 33 #[.agg #[.int .i64 x, .int .i64 y], .slice b1 cs.length c1, .slice b2 ws.length c2] W fun e w' => e = .returned (.int .i64 (shortV x y cs ws)) ∧ Below W.heap.size W w') := fun x y W h1 h2 => iShort x y b1 b2 c1 c2 cs ws W h1 h2 nc nw
  have CS : Hid (∀ (x y : Int) (W : World), IsInts W b1 cs → IsInts W b2 ws → Calls Try.prog 34 #[.agg #[.int .i64 x, .int .i64 y], .slice b1 cs.length c1, .slice b2 ws.length c2] W fun e w' => e = .returned (.int .i64 (shortV x y cs ws)) ∧ Below W.heap.size W w') := fun x y W h1 h2 => sShort x y b1 b2 c1 c2 cs ws W h1 h2 nc nw
  have RI : Hid (∀ (x y : Int) (W : World), IsInts W b1 cs → IsInts W b2 ws → Calls Try.prog 24 #[.agg #[.int .i64 x, .int .i64 y], .slice b1 cs.length c1, .slice b2 ws.length c2] W (OutIB W (runL x y cs ws) (runR x y cs ws) (runH x y cs ws))) := fun x y W h1 h2 => iRun x y b1 b2 c1 c2 cs ws W h1 h2 nc nw
  have K := Blk.new u1 24 #[.int .i64 r, .int .i64 h]
  replace B := B.alloc B.size (.cells #[.int .i64 r, .int .i64 h] 24)
  replace I1 := ints_below I1 ((Below.refl _ u1).alloc (Nat.le_refl _) (.cells #[.int .i64 r, .int .i64 h] 24))
  replace I2 := ints_below I2 ((Below.refl _ u1).alloc (Nat.le_refl _) (.cells #[.int .i64 r, .int .i64 h] 24))
  clear hcs hws
  have C1 := fun W h1 h2 => CI.out r h W h1 h2
  have C2 := fun W h1 h2 => CS.out r h W h1 h2
  cases hrun : runBa r h cs ws with
  | false =>
    rw [(runL_no hrun).2.2.2.2] at C1 C2
    have HC1 := Lib.hid C1
    have HC2 := Lib.hid C2
    clear C1 C2 CI CS RI hrun
    obtain ⟨f0K, f1K, f2K, f3K, f4K⟩ := blk_two K
    go_wp2_with fail
    clear f0K f1K f2K f3K f4K
    refine (HC1.out _ I1 I2).mono ?_
    rintro e u2_ ⟨rfl, C⟩
    replace B := bel_tr B C
    replace I1 := ints_below I1 C
    replace I2 := ints_below I2 C
    replace K := K.next C
    clear C
    obtain ⟨f0K, f1K, f2K, f3K, f4K⟩ := blk_two K
    go_wp2_with fail
    clear f0K f1K f2K f3K f4K
    refine (HC2.out _ I1 I2).mono ?_
    rintro e u3_ ⟨rfl, C⟩
    replace B := bel_tr B C
    replace I1 := ints_below I1 C
    replace I2 := ints_below I2 C
    replace K := K.next C
    clear C
    obtain ⟨f0K, f1K, f2K, f3K, f4K⟩ := blk_two K
    go_wp2_with fail
    clear f0K f1K f2K f3K f4K
    refine (HC2.out _ I1 I2).mono ?_
    rintro e u4_ ⟨rfl, C⟩
    replace B := bel_tr B C
    replace I1 := ints_below I1 C
    replace I2 := ints_below I2 C
    replace K := K.next C
    clear C
    obtain ⟨f0K, f1K, f2K, f3K, f4K⟩ := blk_two K
    go_wp2_with fail
    clear f0K f1K f2K f3K f4K
    go_ret
    exact ⟨rfl, B⟩
  | true =>
  obtain ⟨e1, q1, q2, q3⟩ := short_full hrun
  obtain ⟨⟨s1, s2⟩, ⟨s3, s4⟩, s5⟩ := run_sums hrun
  have hbd := run_is hrun
  have C3 := fun W h1 h2 => CI.out r r W h1 h2
  have R1 := fun W h1 h2 => RI.out r h W h1 h2
  have hl := runL_len hrun
  rw [(short_at hrun).1] at C1 C2
  rw [(short_at e1).1] at C3
  have hsn := (short_at hrun).2
  have T1 := Lib.hid (fun z m => (by have := (vfl_is hbd.2.1).2 z m; omega : -1000000 ≤ z ∧ z ≤ 1000000))
  have T2 := Lib.hid (fun z m => (by have := (vfl_is hbd.2.2.1).2 z m; omega : -1000000 ≤ z ∧ z ≤ 1000000))
  have T3 := Lib.hid (fun z m => (by have := s5 z m; omega : -1000000 ≤ z ∧ z ≤ 1000000))
  obtain ⟨ra, rb, rc, rd⟩ := hbd.1
  clear hbd
  have g0 : decide (shortB r h (hrs cs ws) < 0) = false := decide_eq_false (by omega)
  have g1 : decide (shortB r r (hrs cs ws) ≤ shortB r h (hrs cs ws)) = true := decide_eq_true q1
  have g2 : decide (ws.sum - cs.sum - h ≤ shortB r h (hrs cs ws)) = true := decide_eq_true q2
  have w1_ : IntKind.i64.wrap (ws.sum - cs.sum) = ws.sum - cs.sum := by rw [IntKind.wrap_i64]; omega
  have w2_ : IntKind.i64.wrap (ws.sum - cs.sum - h) = ws.sum - cs.sum - h := by rw [IntKind.wrap_i64]; omega
  have w3_ : IntKind.i64.wrap ((runL r h cs ws).sum + shortB r h (hrs cs ws)) = ws.sum := by rw [q3, IntKind.wrap_i64]; omega
  have nR : (runL r h cs ws).length ≤ 1048576 := by rw [hl]; exact nc
  clear hrun e1 q1 q2 q3 hl s5 hsn
  generalize shortB r h (hrs cs ws) = v at *
  generalize shortB r r (hrs cs ws) = v2 at *
  generalize runL r h cs ws = R at *
  generalize runR r h cs ws = rr at *
  generalize runH r h cs ws = rh at *
  have HC1 := Lib.hid C1
  have HC2 := Lib.hid C2
  have HC3 := Lib.hid C3
  have HR1 := Lib.hid R1
  clear C1 C2 C3 R1 CI CS RI
  obtain ⟨f0K, f1K, f2K, f3K, f4K⟩ := blk_two K
  go_wp2_with fail
  clear f0K f1K f2K f3K f4K
  refine (HC1.out _ I1 I2).mono ?_
  rintro e u2_ ⟨rfl, C⟩
  replace B := bel_tr B C
  replace I1 := ints_below I1 C
  replace I2 := ints_below I2 C
  replace K := K.next C
  clear C
  obtain ⟨f0K, f1K, f2K, f3K, f4K⟩ := blk_two K
  go_wp2_with fail
  clear f0K f1K f2K f3K f4K
  refine (HC2.out _ I1 I2).mono ?_
  rintro e u3_ ⟨rfl, C⟩
  replace B := bel_tr B C
  replace I1 := ints_below I1 C
  replace I2 := ints_below I2 C
  replace K := K.next C
  clear C
  obtain ⟨f0K, f1K, f2K, f3K, f4K⟩ := blk_two K
  go_wp2_with fail
  clear f0K f1K f2K f3K f4K
  refine (HR1.out _ I1 I2).mono ?_
  rintro e u4_ ⟨vO, rfl, O, C⟩
  obtain ⟨bO, cO, rfl, _⟩ := O.ints
  replace B := bel_tr B C
  replace I1 := ints_below I1 C
  replace I2 := ints_below I2 C
  replace K := K.next C
  clear C
  replace B := B.alloc B.size (.cells #[.int .i64 rr, .int .i64 rh] 24)
  replace I1 := ints_below I1 ((Below.refl _ u4_).alloc (Nat.le_refl _) (.cells #[.int .i64 rr, .int .i64 rh] 24))
  replace I2 := ints_below I2 ((Below.refl _ u4_).alloc (Nat.le_refl _) (.cells #[.int .i64 rr, .int .i64 rh] 24))
  replace K := K.alloc (.cells #[.int .i64 rr, .int .i64 rh] 24)
  replace O := allocI O (.cells #[.int .i64 rr, .int .i64 rh] 24)
  have K1 := Blk.new u4_ 24 #[.int .i64 rr, .int .i64 rh]
  obtain ⟨f0K, f1K, f2K, f3K, f4K⟩ := blk_two K
  obtain ⟨f0K1, f1K1, f2K1, f3K1, f4K1⟩ := blk_two K1
  go_wp2_with fail
  clear f0K f1K f2K f3K f4K f0K1 f1K1 f2K1 f3K1 f4K1
  generalize u4_.alloc (.cells #[.int .i64 rr, .int .i64 rh] 24) = u4_n at *
  obtain ⟨f0K, f1K, f2K, f3K, f4K⟩ := blk_two K
  obtain ⟨f0K1, f1K1, f2K1, f3K1, f4K1⟩ := blk_two K1
  have HMK1 := Lib.hid (fun (W : World) (hW : Below u4_n.heap.size u4_n W) => (⟨⟨(hW.cell (p := ⟨u1.heap.size, 0, none⟩) (f4K)).trans f0K, (hW.cell (p := ⟨u1.heap.size, 1, none⟩) (f4K)).trans f1K⟩, hW⟩ : (W.cell? ⟨u1.heap.size, 0, none⟩ = some (.int .i64 r) ∧ W.cell? ⟨u1.heap.size, 1, none⟩ = some (.int .i64 h)) ∧ Below u4_n.heap.size u4_n W))
  refine wp_region_held_drew (S := (fun w' => (w'.cell? ⟨u1.heap.size, 0, none⟩ = some (.int .i64 r) ∧ w'.cell? ⟨u1.heap.size, 1, none⟩ = some (.int .i64 h)) ∧ Below u4_n.heap.size u4_n w')) (by kernel_rfl) ?_ (fun hHeld => ?_)
  · exact ⟨⟨f0K, f1K⟩, (Below.refl _ _).drew⟩
  refine wpAnyH_take (i := 0) (oi := ?ooa2_) (v := ?vva2_) ?hia2_ (by kernel_rfl) ?h3a2_ ?h4a2_ ?h5a2_ ?h6a2_ (by assumption) ?h8a2_
  case hia2_ => (simp only [List.getElem?_toArray, List.getElem?_cons_succ, List.getElem?_cons_zero]; rfl)
  case h3a2_ => kernel_rfl
  case h4a2_ => kernel_rfl
  case h6a2_ => (refine Or.inl ⟨by rfl, ?_⟩; intro w hSw; (try dsimp only at hSw); (go_simp <;> with_reducible rfl))
  case h5a2_ => exact fun _ _ _ h => h
  try simp only [Act.put, List.setIfInBounds_toArray, List.set_cons_zero, List.set_cons_succ]
  refine wpAnyH_take (i := 1) (oi := ?ooa3_) (v := ?vva3_) ?hia3_ (by kernel_rfl) ?h3a3_ ?h4a3_ ?h5a3_ ?h6a3_ (by assumption) ?h8a3_
  case hia3_ => (simp only [List.getElem?_toArray, List.getElem?_cons_succ, List.getElem?_cons_zero]; rfl)
  case h3a3_ => kernel_rfl
  case h4a3_ => kernel_rfl
  case h6a3_ => (refine Or.inl ⟨by rfl, ?_⟩; intro w hSw; (try dsimp only at hSw); (go_simp <;> with_reducible rfl))
  case h5a3_ => exact fun _ _ _ h => h
  try simp only [Act.put, List.setIfInBounds_toArray, List.set_cons_zero, List.set_cons_succ]
  refine wpAnyH_take (i := 2) (oi := ?ooa4_) (v := ?vva4_) ?hia4_ (by kernel_rfl) ?h3a4_ ?h4a4_ ?h5a4_ ?h6a4_ (by assumption) ?h8a4_
  case hia4_ => (simp only [List.getElem?_toArray, List.getElem?_cons_succ, List.getElem?_cons_zero]; rfl)
  case h3a4_ => kernel_rfl
  case h4a4_ => kernel_rfl
  case h6a4_ => (refine Or.inl ⟨by rfl, ?_⟩; intro w hSw; (try dsimp only at hSw); (go_simp <;> with_reducible rfl))
  case h5a4_ => exact fun _ _ _ h => h
  try simp only [Act.put, List.setIfInBounds_toArray, List.set_cons_zero, List.set_cons_succ]
  refine wpAnyH_take (i := 3) (oi := ?ooa5_) (v := ?vva5_) ?hia5_ (by kernel_rfl) ?h3a5_ ?h4a5_ ?h5a5_ ?h6a5_ (by assumption) ?h8a5_
  case hia5_ => (simp only [List.getElem?_toArray, List.getElem?_cons_succ, List.getElem?_cons_zero]; rfl)
  case h3a5_ => kernel_rfl
  case h4a5_ => kernel_rfl
  case h6a5_ => (refine Or.inl ⟨by rfl, ?_⟩; intro w hSw; (try dsimp only at hSw); (go_simp <;> with_reducible rfl))
  case h5a5_ => exact fun _ _ _ h => h
  try simp only [Act.put, List.setIfInBounds_toArray, List.set_cons_zero, List.set_cons_succ]
  refine wpAnyH_take (i := 4) (oi := ?ooa6_) (v := ?vva6_) ?hia6_ (by kernel_rfl) ?h3a6_ ?h4a6_ ?h5a6_ ?h6a6_ (by assumption) ?h8a6_
  case hia6_ => (simp only [List.getElem?_toArray, List.getElem?_cons_succ, List.getElem?_cons_zero]; rfl)
  case h3a6_ => kernel_rfl
  case h4a6_ => kernel_rfl
  case h6a6_ => (refine Or.inl ⟨by rfl, ?_⟩; intro w hSw; (try dsimp only at hSw); (go_simp <;> with_reducible rfl))
  case h5a6_ => exact fun _ _ _ h => h
  try simp only [Act.put, List.setIfInBounds_toArray, List.set_cons_zero, List.set_cons_succ]
  refine wpAnyH_take (i := 5) (oi := ?ooa7_) (v := ?vva7_) ?hia7_ (by kernel_rfl) ?h3a7_ ?h4a7_ ?h5a7_ ?h6a7_ (by assumption) ?h8a7_
  case hia7_ => (simp only [List.getElem?_toArray, List.getElem?_cons_succ, List.getElem?_cons_zero]; rfl)
  case h3a7_ => kernel_rfl
  case h4a7_ => kernel_rfl
  case h6a7_ => (refine Or.inl ⟨by rfl, ?_⟩; intro w hSw; (try dsimp only at hSw); (go_simp <;> with_reducible rfl))
  case h5a7_ => exact fun _ _ _ h => h
  try simp only [Act.put, List.setIfInBounds_toArray, List.set_cons_zero, List.set_cons_succ]
  refine wpAnyH_take (i := 6) (oi := ?ooa8_) (v := ?vva8_) ?hia8_ (by kernel_rfl) ?h3a8_ ?h4a8_ ?h5a8_ ?h6a8_ (by assumption) ?h8a8_
  case hia8_ => (simp only [List.getElem?_toArray, List.getElem?_cons_succ, List.getElem?_cons_zero]; rfl)
  case h3a8_ => kernel_rfl
  case h4a8_ => kernel_rfl
  case h6a8_ => (refine Or.inl ⟨by rfl, ?_⟩; intro w hSw; (try dsimp only at hSw); (go_simp <;> with_reducible rfl))
  case h5a8_ => exact fun _ _ _ h => h
  try simp only [Act.put, List.setIfInBounds_toArray, List.set_cons_zero, List.set_cons_succ]
  refine wpAnyH_take (i := 8) (oi := ?ooa9_) (v := ?vva9_) ?hia9_ (by kernel_rfl) ?h3a9_ ?h4a9_ ?h5a9_ ?h6a9_ (by assumption) ?h8a9_
  case hia9_ => (simp only [List.getElem?_toArray, List.getElem?_cons_succ, List.getElem?_cons_zero]; rfl)
  case h3a9_ => kernel_rfl
  case h4a9_ => kernel_rfl
  case h6a9_ => (refine Or.inl ⟨by rfl, ?_⟩; intro w hSw; (try dsimp only at hSw); (go_simp <;> with_reducible rfl))
  case h5a9_ => exact fun _ _ _ h => h
  try simp only [Act.put, List.setIfInBounds_toArray, List.set_cons_zero, List.set_cons_succ]
  refine wpAnyH_ready (rs := [7]) (by kernel_rfl) (by simp) (AllReadyH.cons (o := ?ooa10_q0) ?hia10_q0 (fun K hK => ?hka10_q0) AllReadyH.nil)
  case hia10_q0 => (simp only [List.getElem?_toArray, List.getElem?_cons_succ, List.getElem?_cons_zero]; rfl)
  case hka10_q0 =>
    (rw [if_pos (by rfl)]; go_simp; refine (HC3.out _ (ints_below I1 hHeld.2) (ints_below I2 hHeld.2)).mono ?_; rintro e w7_ ⟨rfl, hb⟩; go_wp2_with fail; refine hK.out _ _ (HMK1.out _ (bel_tr hHeld.2 hb)) (fun hHeld => ?_); clear hK K)
    try simp only [Act.put, List.setIfInBounds_toArray, List.set_cons_zero, List.set_cons_succ]
    refine wpAnyH_take (i := 9) (oi := ?ooa11_) (v := ?vva11_) ?hia11_ (by kernel_rfl) ?h3a11_ ?h4a11_ ?h5a11_ ?h6a11_ (by assumption) ?h8a11_
    case hia11_ => (simp only [List.getElem?_toArray, List.getElem?_cons_succ, List.getElem?_cons_zero]; rfl)
    case h3a11_ => kernel_rfl
    case h4a11_ => kernel_rfl
    case h6a11_ => (refine Or.inl ⟨by rfl, ?_⟩; intro w hSw; (try dsimp only at hSw); (go_simp <;> with_reducible rfl))
    case h5a11_ => exact fun _ _ _ h => h
    try simp only [Act.put, List.setIfInBounds_toArray, List.set_cons_zero, List.set_cons_succ]
    refine wpAnyH_take (i := 10) (oi := ?ooa12_) (v := ?vva12_) ?hia12_ (by kernel_rfl) ?h3a12_ ?h4a12_ ?h5a12_ ?h6a12_ (by assumption) ?h8a12_
    case hia12_ => (simp only [List.getElem?_toArray, List.getElem?_cons_succ, List.getElem?_cons_zero]; rfl)
    case h3a12_ => kernel_rfl
    case h4a12_ => kernel_rfl
    case h6a12_ => (refine Or.inl ⟨by rfl, ?_⟩; intro w hSw; (try dsimp only at hSw); (go_simp <;> with_reducible rfl))
    case h5a12_ => exact fun _ _ _ h => h
    try simp only [Act.put, List.setIfInBounds_toArray, List.set_cons_zero, List.set_cons_succ]
    refine wpAnyH_take (i := 11) (oi := ?ooa13_) (v := ?vva13_) ?hia13_ (by kernel_rfl) ?h3a13_ ?h4a13_ ?h5a13_ ?h6a13_ (by assumption) ?h8a13_
    case hia13_ => (simp only [List.getElem?_toArray, List.getElem?_cons_succ, List.getElem?_cons_zero]; rfl)
    case h3a13_ => kernel_rfl
    case h4a13_ => kernel_rfl
    case h6a13_ => (refine Or.inl ⟨by rfl, ?_⟩; intro w hSw; (try dsimp only at hSw); (go_simp <;> with_reducible rfl))
    case h5a13_ => exact fun _ _ _ h => h
    try simp only [Act.put, List.setIfInBounds_toArray, List.set_cons_zero, List.set_cons_succ]
    refine wpAnyH_take (i := 12) (oi := ?ooa14_) (v := ?vva14_) ?hia14_ (by kernel_rfl) ?h3a14_ ?h4a14_ ?h5a14_ ?h6a14_ (by assumption) ?h8a14_
    case hia14_ => (simp only [List.getElem?_toArray, List.getElem?_cons_succ, List.getElem?_cons_zero]; rfl)
    case h3a14_ => kernel_rfl
    case h4a14_ => kernel_rfl
    case h6a14_ => (refine Or.inl ⟨by rfl, ?_⟩; intro w hSw; (try dsimp only at hSw); (go_simp <;> with_reducible rfl))
    case h5a14_ => exact fun _ _ _ h => h
    try simp only [Act.put, List.setIfInBounds_toArray, List.set_cons_zero, List.set_cons_succ]
    refine wpAnyH_take (i := 14) (oi := ?ooa15_) (v := ?vva15_) ?hia15_ (by kernel_rfl) ?h3a15_ ?h4a15_ ?h5a15_ ?h6a15_ (by assumption) ?h8a15_
    case hia15_ => (simp only [List.getElem?_toArray, List.getElem?_cons_succ, List.getElem?_cons_zero]; rfl)
    case h3a15_ => kernel_rfl
    case h4a15_ => kernel_rfl
    case h6a15_ => (refine Or.inl ⟨by rfl, ?_⟩; intro w hSw; (try dsimp only at hSw); (go_simp <;> with_reducible rfl))
    case h5a15_ => exact fun _ _ _ h => h
    try simp only [Act.put, List.setIfInBounds_toArray, List.set_cons_zero, List.set_cons_succ]
    refine wpAnyH_take (i := 17) (oi := ?ooa16_) (v := ?vva16_) ?hia16_ (by kernel_rfl) ?h3a16_ ?h4a16_ ?h5a16_ ?h6a16_ (by assumption) ?h8a16_
    case hia16_ => (simp only [List.getElem?_toArray, List.getElem?_cons_succ, List.getElem?_cons_zero]; rfl)
    case h3a16_ => kernel_rfl
    case h4a16_ => kernel_rfl
    case h6a16_ => (refine Or.inl ⟨by rfl, ?_⟩; intro w hSw; (try dsimp only at hSw); (go_simp <;> with_reducible rfl))
    case h5a16_ => exact fun _ _ _ h => h
    try simp only [Act.put, List.setIfInBounds_toArray, List.set_cons_zero, List.set_cons_succ]
    refine wpAnyH_take (i := 18) (oi := ?ooa17_) (v := ?vva17_) ?hia17_ (by kernel_rfl) ?h3a17_ ?h4a17_ ?h5a17_ ?h6a17_ (by assumption) ?h8a17_
    case hia17_ => (simp only [List.getElem?_toArray, List.getElem?_cons_succ, List.getElem?_cons_zero]; rfl)
    case h3a17_ => kernel_rfl
    case h4a17_ => kernel_rfl
    case h6a17_ => (refine Or.inl ⟨by rfl, ?_⟩; intro w hSw; (try dsimp only at hSw); (go_simp <;> with_reducible rfl))
    case h5a17_ => exact fun _ _ _ h => h
    try simp only [Act.put, List.setIfInBounds_toArray, List.set_cons_zero, List.set_cons_succ]
    refine wpAnyH_ready (rs := [13]) (by kernel_rfl) (by simp) (AllReadyH.cons (o := ?ooa18_q0) ?hia18_q0 (fun K hK => ?hka18_q0) AllReadyH.nil)
    case hia18_q0 => (simp only [List.getElem?_toArray, List.getElem?_cons_succ, List.getElem?_cons_zero]; rfl)
    case hka18_q0 =>
      (rw [if_pos (by rfl)]; go_simp; refine (ltotal _ _ ws _ (ints_below I2 hHeld.2) nw T2.out).mono ?_; rintro e w' ⟨rfl, rfl⟩; go_wp2_with fail; refine hK.out _ _ (hHeld) (fun hHeld => ?_); clear hK K)
      try simp only [Act.put, List.setIfInBounds_toArray, List.set_cons_zero, List.set_cons_succ]
      refine wpAnyH_ready (rs := [15]) (by kernel_rfl) (by simp) (AllReadyH.cons (o := ?ooa19_q0) ?hia19_q0 (fun K hK => ?hka19_q0) AllReadyH.nil)
      case hia19_q0 => (simp only [List.getElem?_toArray, List.getElem?_cons_succ, List.getElem?_cons_zero]; rfl)
      case hka19_q0 =>
        (rw [if_pos (by rfl)]; go_simp; refine (ltotal _ _ cs _ (ints_below I1 hHeld.2) nc T1.out).mono ?_; rintro e w' ⟨rfl, rfl⟩; go_wp2_with fail; refine hK.out _ _ (hHeld) (fun hHeld => ?_); clear hK K)
        try simp only [Act.put, List.setIfInBounds_toArray, List.set_cons_zero, List.set_cons_succ]
        refine wpAnyH_take (i := 16) (oi := ?ooa20_) (v := ?vva20_) ?hia20_ (by kernel_rfl) ?h3a20_ ?h4a20_ ?h5a20_ ?h6a20_ (by assumption) ?h8a20_
        case hia20_ => (simp only [List.getElem?_toArray, List.getElem?_cons_succ, List.getElem?_cons_zero]; rfl)
        case h3a20_ => kernel_rfl
        case h4a20_ => kernel_rfl
        case h6a20_ => (refine Or.inl ⟨by rfl, ?_⟩; intro w hSw; (try dsimp only at hSw); (go_simp <;> with_reducible rfl))
        case h5a20_ => exact fun _ _ _ h => h
        try simp only [Act.put, List.setIfInBounds_toArray, List.set_cons_zero, List.set_cons_succ]
        refine wpAnyH_take (i := 19) (oi := ?ooa21_) (v := ?vva21_) ?hia21_ (by kernel_rfl) ?h3a21_ ?h4a21_ ?h5a21_ ?h6a21_ (by assumption) ?h8a21_
        case hia21_ => (simp only [List.getElem?_toArray, List.getElem?_cons_succ, List.getElem?_cons_zero]; rfl)
        case h3a21_ => kernel_rfl
        case h4a21_ => kernel_rfl
        case h6a21_ => (refine Or.inl ⟨by rfl, ?_⟩; intro w hSw; (try dsimp only at hSw); (go_simp <;> with_reducible rfl))
        case h5a21_ => exact fun _ _ _ h => h
        try simp only [Act.put, List.setIfInBounds_toArray, List.set_cons_zero, List.set_cons_succ]
        refine wpAnyH_take (i := 20) (oi := ?ooa22_) (v := ?vva22_) ?hia22_ (by kernel_rfl) ?h3a22_ ?h4a22_ ?h5a22_ ?h6a22_ (by assumption) ?h8a22_
        case hia22_ => (simp only [List.getElem?_toArray, List.getElem?_cons_succ, List.getElem?_cons_zero]; rfl)
        case h3a22_ => kernel_rfl
        case h4a22_ => kernel_rfl
        case h6a22_ => (refine Or.inl ⟨by rfl, ?_⟩; intro w hSw; (try dsimp only at hSw); (go_simp <;> with_reducible rfl))
        case h5a22_ => exact fun _ _ _ h => h
        try simp only [Act.put, List.setIfInBounds_toArray, List.set_cons_zero, List.set_cons_succ]
        refine wpAnyH_take (i := 21) (oi := ?ooa23_) (v := ?vva23_) ?hia23_ (by kernel_rfl) ?h3a23_ ?h4a23_ ?h5a23_ ?h6a23_ (by assumption) ?h8a23_
        case hia23_ => (simp only [List.getElem?_toArray, List.getElem?_cons_succ, List.getElem?_cons_zero]; rfl)
        case h3a23_ => kernel_rfl
        case h4a23_ => kernel_rfl
        case h6a23_ => (refine Or.inl ⟨by rfl, ?_⟩; intro w hSw; (try dsimp only at hSw); (go_simp <;> with_reducible rfl))
        case h5a23_ => exact fun _ _ _ h => h
        try simp only [Act.put, List.setIfInBounds_toArray, List.set_cons_zero, List.set_cons_succ]
        refine wpAnyH_take (i := 22) (oi := ?ooa24_) (v := ?vva24_) ?hia24_ (by kernel_rfl) ?h3a24_ ?h4a24_ ?h5a24_ ?h6a24_ (by assumption) ?h8a24_
        case hia24_ => (simp only [List.getElem?_toArray, List.getElem?_cons_succ, List.getElem?_cons_zero]; rfl)
        case h3a24_ => kernel_rfl
        case h4a24_ => kernel_rfl
        case h6a24_ => (refine Or.inl ⟨by rfl, ?_⟩; intro w hSw; (try dsimp only at hSw); (go_simp <;> with_reducible rfl))
        case h5a24_ => exact fun _ _ _ h => h
        try simp only [Act.put, List.setIfInBounds_toArray, List.set_cons_zero, List.set_cons_succ]
        refine wpAnyH_take (i := 23) (oi := ?ooa25_) (v := ?vva25_) ?hia25_ (by kernel_rfl) ?h3a25_ ?h4a25_ ?h5a25_ ?h6a25_ (by assumption) ?h8a25_
        case hia25_ => (simp only [List.getElem?_toArray, List.getElem?_cons_succ, List.getElem?_cons_zero]; rfl)
        case h3a25_ => kernel_rfl
        case h4a25_ => kernel_rfl
        case h6a25_ => (refine Or.inl ⟨by rfl, ?_⟩; intro w hSw; (try dsimp only at hSw); (go_simp <;> with_reducible rfl))
        case h5a25_ => exact fun _ _ _ h => h
        try simp only [Act.put, List.setIfInBounds_toArray, List.set_cons_zero, List.set_cons_succ]
        refine wpAnyH_take (i := 25) (oi := ?ooa26_) (v := ?vva26_) ?hia26_ (by kernel_rfl) ?h3a26_ ?h4a26_ ?h5a26_ ?h6a26_ (by assumption) ?h8a26_
        case hia26_ => (simp only [List.getElem?_toArray, List.getElem?_cons_succ, List.getElem?_cons_zero]; rfl)
        case h3a26_ => kernel_rfl
        case h4a26_ => kernel_rfl
        case h6a26_ => (refine Or.inl ⟨by rfl, ?_⟩; intro w hSw; (try dsimp only at hSw); (go_simp <;> with_reducible rfl))
        case h5a26_ => exact fun _ _ _ h => h
        try simp only [Act.put, List.setIfInBounds_toArray, List.set_cons_zero, List.set_cons_succ]
        refine wpAnyH_take (i := 27) (oi := ?ooa27_) (v := ?vva27_) ?hia27_ (by kernel_rfl) ?h3a27_ ?h4a27_ ?h5a27_ ?h6a27_ (by assumption) ?h8a27_
        case hia27_ => (simp only [List.getElem?_toArray, List.getElem?_cons_succ, List.getElem?_cons_zero]; rfl)
        case h3a27_ => kernel_rfl
        case h4a27_ => kernel_rfl
        case h6a27_ => (refine Or.inl ⟨by rfl, ?_⟩; intro w hSw; (try dsimp only at hSw); (go_simp <;> with_reducible rfl))
        case h5a27_ => exact fun _ _ _ h => h
        try simp only [Act.put, List.setIfInBounds_toArray, List.set_cons_zero, List.set_cons_succ]
        refine wpAnyH_ready (rs := [24]) (by kernel_rfl) (by simp) (AllReadyH.cons (o := ?ooa28_q0) ?hia28_q0 (fun K hK => ?hka28_q0) AllReadyH.nil)
        case hia28_q0 => (simp only [List.getElem?_toArray, List.getElem?_cons_succ, List.getElem?_cons_zero]; rfl)
        case hka28_q0 =>
          (rw [if_pos (by rfl)]; go_simp; refine (ltotal _ _ R _ (ints_below O.at_ hHeld.2) nR T3.out).mono ?_; rintro e w' ⟨rfl, rfl⟩; go_wp2_with fail; refine hK.out _ _ (hHeld) (fun hHeld => ?_); clear hK K)
          try simp only [Act.put, List.setIfInBounds_toArray, List.set_cons_zero, List.set_cons_succ]
          refine wpAnyH_take (i := 26) (oi := ?ooa29_) (v := ?vva29_) ?hia29_ (by kernel_rfl) ?h3a29_ ?h4a29_ ?h5a29_ ?h6a29_ (by assumption) ?h8a29_
          case hia29_ => (simp only [List.getElem?_toArray, List.getElem?_cons_succ, List.getElem?_cons_zero]; rfl)
          case h3a29_ => kernel_rfl
          case h4a29_ => kernel_rfl
          case h6a29_ => (refine Or.inl ⟨by rfl, ?_⟩; intro w hSw; (try dsimp only at hSw); (go_simp <;> with_reducible rfl))
          case h5a29_ => exact fun _ _ _ h => h
          try simp only [Act.put, List.setIfInBounds_toArray, List.set_cons_zero, List.set_cons_succ]
          refine wpAnyH_ready (rs := [28]) (by kernel_rfl) (by simp) (AllReadyH.cons (o := ?ooa30_q0) ?hia30_q0 (fun K hK => ?hka30_q0) AllReadyH.nil)
          case hia30_q0 => (simp only [List.getElem?_toArray, List.getElem?_cons_succ, List.getElem?_cons_zero]; rfl)
          case hka30_q0 =>
            (rw [if_pos (by rfl)]; go_simp; refine (ltotal _ _ ws _ (ints_below I2 hHeld.2) nw T2.out).mono ?_; rintro e w' ⟨rfl, rfl⟩; go_wp2_with fail; refine hK.out _ _ (hHeld) (fun hHeld => ?_); clear hK K)
            try simp only [Act.put, List.setIfInBounds_toArray, List.set_cons_zero, List.set_cons_succ]
            refine wpAnyH_take (i := 29) (oi := ?ooa31_) (v := ?vva31_) ?hia31_ (by kernel_rfl) ?h3a31_ ?h4a31_ ?h5a31_ ?h6a31_ (by assumption) ?h8a31_
            case hia31_ => (simp only [List.getElem?_toArray, List.getElem?_cons_succ, List.getElem?_cons_zero]; rfl)
            case h3a31_ => kernel_rfl
            case h4a31_ => kernel_rfl
            case h6a31_ => (refine Or.inl ⟨by rfl, ?_⟩; intro w hSw; (try dsimp only at hSw); (go_simp <;> with_reducible rfl))
            case h5a31_ => exact fun _ _ _ h => h
            try simp only [Act.put, List.setIfInBounds_toArray, List.set_cons_zero, List.set_cons_succ]
            refine wpAnyH_take (i := 30) (oi := ?ooa32_) (v := ?vva32_) ?hia32_ (by kernel_rfl) ?h3a32_ ?h4a32_ ?h5a32_ ?h6a32_ (by assumption) ?h8a32_
            case hia32_ => (simp only [List.getElem?_toArray, List.getElem?_cons_succ, List.getElem?_cons_zero]; rfl)
            case h3a32_ => kernel_rfl
            case h4a32_ => kernel_rfl
            case h6a32_ => (refine Or.inl ⟨by rfl, ?_⟩; intro w hSw; (try dsimp only at hSw); (go_simp <;> with_reducible rfl))
            case h5a32_ => exact fun _ _ _ h => h
            try simp only [Act.put, List.setIfInBounds_toArray, List.set_cons_zero, List.set_cons_succ]
            refine wpAnyH_take (i := 31) (oi := ?ooa33_) (v := ?vva33_) ?hia33_ (by kernel_rfl) ?h3a33_ ?h4a33_ ?h5a33_ ?h6a33_ (by assumption) ?h8a33_
            case hia33_ => (simp only [List.getElem?_toArray, List.getElem?_cons_succ, List.getElem?_cons_zero]; rfl)
            case h3a33_ => kernel_rfl
            case h4a33_ => kernel_rfl
            case h6a33_ => (refine Or.inl ⟨by rfl, ?_⟩; intro w hSw; (try dsimp only at hSw); (go_simp <;> with_reducible rfl))
            case h5a33_ => exact fun _ _ _ h => h
            try simp only [Act.put, List.setIfInBounds_toArray, List.set_cons_zero, List.set_cons_succ]
            refine wpAnyH_done (by kernel_rfl) ?_ _
            clear HMK1
            have C := hHeld.2
            replace B := bel_tr B C
            clear hHeld
            go_wp2_with fail
            go_ret
            exact ⟨rfl, B⟩

set_option maxRecDepth 100000 in
theorem lifted (os : Os) (started : os.Started) (H : Type) (enc : TypeId × Value → H) :
    ReturnsInHanded {} Try.checked os 8 .any (Rows.fnShortOfSpec.pre6 enc Try.prog Try.f8 Rows.fnShortOfRow.domain false) (Rows.fnShortOfSpec.post enc Try.prog Try.f8 false true false false) := by
  refine returnsInHanded_of_change (C := Try.checked) own started (by kernel_rfl) Try.func8
    (ChangeSpec.witness6 (enc := enc) (C := Try.checked) false ⟨#[], #[.slice none 0 0], []⟩ 8 (by kernel_rfl) (by kernel_rfl) (by kernel_rfl) (by kernel_rfl)) ?_
  intro W base args ds gs before hval0 hW hcnd _
  have hval : ∀ (j : Nat) t v, Try.f8.params[j]? = some t → args[j]? = some v → Value.okWide Try.prog W .any base t v := hval0
  have hW' := hW
  obtain ⟨p, q, hA0, hV, rfl, hfz, hnd⟩ := hW
  have hA : DataW.TrodAll enc Try.prog W 0 (fun _ => true) true Try.f8.params.toList args.toList ds p := hA0
  rw [Try.params8] at hA hval
  obtain ⟨v0, vs0, e0, es0, p0, q0, hargs, rfl, rfl, h0, r0⟩ := trodAll_cons hA
  obtain ⟨rfl, rfl, rfl⟩ := trodAll_nil r0
  obtain rfl : args = #[v0] := by cases args; simp_all
  obtain ⟨rfl, rfl⟩ := trodVars_none hV
  have k0 := h0
  have lt0 : ∀ x ∈ p0, x.block < W.heap.size := by obtain ⟨m, hm⟩ := k0; exact DataW.trod_lt m _ _ _ hm
  obtain ⟨a0, len0, cap0, rfl⟩ := okWide_slice Try.underlying22 (hval 0 22 v0 rfl rfl)
  obtain ⟨z0, w0⟩ : ∃ zs, IsRow .u8 W a0 len0 cap0 zs := by
    obtain ⟨fuel, hf⟩ := h0
    rcases open_ints Try.underlying22 Try.underlying5 (by kernel_rfl) hf with ⟨hcs, _⟩ | ⟨x, l, c, zs, hcs, _, hl, hm, hz, _, hcell, hwz⟩
    · simp [Value.cells] at hcs
      obtain ⟨rfl, rfl, rfl⟩ := hcs
      exact ⟨[], .inl ⟨rfl, rfl, rfl, rfl⟩⟩
    · simp [Value.cells] at hcs
      obtain ⟨rfl, rfl, rfl⟩ := hcs
      exact ⟨zs, .inr ⟨_, rfl, hl, hm, by simpa using hz, hcell, hwz⟩⟩
  clear hA0 hval0
  refine (walk a0 len0 cap0 z0 W w0).mono fun e W' ⟨he, bel⟩ => ?_
  subst he
  exact ⟨_, rfl, _, _, _, [], _, [], hW', trodAll_mk1 (shut_bool Try.underlying4 _), (trodAll_cons_mk (Below.trod laidOut (by kernel_rfl) (of_decide_eq_true (by kernel_rfl)) k0 bel lt0) trodAll_mk0), rfl, bel.frame _, fun h => by cases h⟩

theorem over : Rows.fnShortOfRow.holds Try.pinned (OpenSpec.ofChange Rows.fnShortOfSpec) :=
  OpenClaim.holds_of_wide 8 Try.f8 rfl rfl rfl rfl rfl rfl rfl ⟨rfl, rfl, rfl, rfl, rfl⟩ rfl rfl rfl rfl rfl (by kernel_rfl) Try.func8 (by kernel_rfl)
    (of_decide_eq_true (by kernel_rfl)) (by unfold Func.isWrapper; first | (rw [if_pos (by decide +kernel)]; kernel_rfl) | (rw [if_neg (by decide +kernel)]; exact ⟨rfl, rfl⟩))
    (fun os started H enc _ => lifted os started H enc)

end Go.Proofs.Ytfcgjiciobfncaa.fnShortOf
namespace Go.Proofs.Ytfcgjiciobfncaa
/-- the statement -/
theorem fnShortOf_holds : Rows.FnShortOfSaid := fnShortOf.over
end Go.Proofs.Ytfcgjiciobfncaa
