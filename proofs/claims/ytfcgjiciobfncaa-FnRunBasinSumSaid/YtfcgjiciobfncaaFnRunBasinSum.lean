/- For every input the law answers true, and its argument reads afterwards as before: all water is accounted for. No condition. -/
import Derived.Test.YtfcgjiciobfncaaRows
import Derived.Test.YtfcgjiciobfncaaDrawBb
import Derived.Test.YtfcgjiciobfncaaEqI
import Derived.Test.YtfcgjiciobfncaaRunT
import Derived.Test.YtfcgjiciobfncaaBasQ
import Derived.WalkKit
import Derived.Deep.RegionHeld3
import Derived.Deep.DeepCutAuto
import Derived.Deep.QuietTactic
import Derived.BigQuiet
import Derived.ProofKit
import Derived.OpenShut
import Derived.ShutString
import Derived.ChangeOld
import Derived.Below
import Derived.Lib.SmallJoins
namespace Go.Proofs.Ytfcgjiciobfncaa.fnRunBasinSum
open Go.ChangeShapes Go.WideShapes Go.ChangeAt Go.RowKit Go.Joins
open Go.ChangeMaps (open_string shut_string)
set_option linter.unusedVariables false
set_option linter.unusedSimpArgs false

theorem own : ownKnob Try.prog.godebug = none := by kernel_rfl
theorem laidOut : laidOutB Try.prog = true := by kernel_rfl

set_option maxRecDepth 100000 in
set_option maxHeartbeats 8000000 in
theorem walk (a0 : Option Addr) (len0 cap0 : Nat) (z0 : List Int) (w : World) (w0 : IsRow .u8 w a0 len0 cap0 z0) :
    Calls Try.prog 6 #[.slice a0 len0 cap0] w fun e w' => e = .returned (.bool true) ∧ Below w.heap.size w w' := by
  by_cases big : (1048576 : Int) < (len0 : Int)
  · go_enter Try.func6, Try.ntmps6
    go_wp2
    go_ret
    exact ⟨rfl, Below.refl _ _⟩
  go_enter Try.func6, Try.ntmps6
  go_wp2_with fail
  refine (drawRun a0 len0 cap0 z0 _ w0).mono ?_
  rintro e u1 ⟨r, h, b1, c1, cs, b2, c2, ws, rfl, ⟨r0, r1, h0, h1⟩, ⟨lc, hcs, O1, p1⟩, ⟨lw, hws, O2, p2⟩, B⟩
  clear w0 big
  have I1 := O1.at_
  have I2 := O2.at_
  clear O1 O2
  have nc : cs.length ≤ 1048576 := by omega
  have nw : ws.length ≤ 1048576 := by omega
  have RI : Hid (∀ (x y : Int) (W : World), IsInts W b1 cs → IsInts W b2 ws → Calls Try.prog 24 #[.agg #[.int .i64 x, .int .i64 y], .slice b1 cs.length c1, .slice b2 ws.length c2] W (OutIB W (runL x y cs ws) (runR x y cs ws) (runH x y cs ws))) := fun x y W h1 h2 => iRun x y b1 b2 c1 c2 cs ws W h1 h2 nc nw
  have RS : Hid (∀ (x y : Int) (W : World), IsInts W b1 cs → IsInts W b2 ws → Calls Try.prog 25 #[.agg #[.int .i64 x, .int .i64 y], .slice b1 cs.length c1, .slice b2 ws.length c2] W (OutIB W (runL x y cs ws) (runR x y cs ws) (runH x y cs ws))) := fun x y W h1 h2 => sRun x y b1 b2 c1 c2 cs ws W h1 h2 nc nw
  have CI : Hid (∀ (x y : Int) (W : World), IsInts W b1 cs → IsInts W b2 ws → Calls Try.prog 29 #[.agg #[.int .i64 x, .int .i64 y], .slice b1 cs.length c1, .slice b2 ws.length c2] W (OutI W (spiL x y cs ws))) := fun x y W h1 h2 => iSpills x y b1 b2 c1 c2 cs ws W h1 h2 nc nw
  have K := Blk.new u1 24 #[.int .i64 r, .int .i64 h]
  replace B := B.alloc B.size (.cells #[.int .i64 r, .int .i64 h] 24)
  replace I1 := ints_below I1 ((Below.refl _ u1).alloc (Nat.le_refl _) (.cells #[.int .i64 r, .int .i64 h] 24))
  replace I2 := ints_below I2 ((Below.refl _ u1).alloc (Nat.le_refl _) (.cells #[.int .i64 r, .int .i64 h] 24))
  clear hcs hws
  have C1 := fun W h1 h2 => RI.out r h W h1 h2
  have C2 := fun W h1 h2 => RS.out r h W h1 h2
  have nR : (runL r h cs ws).length ≤ 1048576 := by
    cases e : runBa r h cs ws with
    | false => rw [(runL_no e).1]; simp
    | true => rw [runL_len e]; exact nc
  by_cases hq : (runL r h cs ws).length = 0
  · have e0 : (((runL r h cs ws).length : Int) == 0) = true := by rw [beq_iff_eq]; omega
    have e00 : ((runL r h cs ws).length == 0) = true := by rw [beq_iff_eq]; exact hq
    clear hq
    generalize runL r h cs ws = R at *
    generalize runR r h cs ws = rr at *
    generalize runH r h cs ws = rh at *
    have HC1 := Lib.hid C1
    have HC2 := Lib.hid C2
    clear C1 C2 RI RS CI
    obtain ⟨f0K, f1K, f2K, f3K, f4K⟩ := blk_two K
    go_wp2_with fail
    clear f0K f1K f2K f3K f4K
    refine (HC1.out _ I1 I2).mono ?_
    rintro e u2_ ⟨vO, rfl, O, C⟩
    obtain ⟨bO, cO, rfl, _⟩ := O.ints
    replace B := bel_tr B C
    replace I1 := ints_below I1 C
    replace I2 := ints_below I2 C
    replace K := K.next C
    clear C
    replace B := B.alloc B.size (.cells #[.int .i64 rr, .int .i64 rh] 24)
    replace I1 := ints_below I1 ((Below.refl _ u2_).alloc (Nat.le_refl _) (.cells #[.int .i64 rr, .int .i64 rh] 24))
    replace I2 := ints_below I2 ((Below.refl _ u2_).alloc (Nat.le_refl _) (.cells #[.int .i64 rr, .int .i64 rh] 24))
    replace K := K.alloc (.cells #[.int .i64 rr, .int .i64 rh] 24)
    replace O := allocI O (.cells #[.int .i64 rr, .int .i64 rh] 24)
    have K1 := Blk.new u2_ 24 #[.int .i64 rr, .int .i64 rh]
    obtain ⟨f0K, f1K, f2K, f3K, f4K⟩ := blk_two K
    obtain ⟨f0K1, f1K1, f2K1, f3K1, f4K1⟩ := blk_two K1
    go_wp2_with fail
    clear f0K f1K f2K f3K f4K f0K1 f1K1 f2K1 f3K1 f4K1
    generalize u2_.alloc (.cells #[.int .i64 rr, .int .i64 rh] 24) = u2_n at *
    refine (HC2.out _ I1 I2).mono ?_
    rintro e u3_ ⟨vP, rfl, P, C⟩
    obtain ⟨bP, cP, rfl, _⟩ := P.ints
    replace B := bel_tr B C
    replace I1 := ints_below I1 C
    replace I2 := ints_below I2 C
    replace K := K.next C
    replace O := O.of_block C
    replace K1 := K1.next C
    clear C
    replace B := B.alloc B.size (.cells #[.int .i64 rr, .int .i64 rh] 24)
    replace I1 := ints_below I1 ((Below.refl _ u3_).alloc (Nat.le_refl _) (.cells #[.int .i64 rr, .int .i64 rh] 24))
    replace I2 := ints_below I2 ((Below.refl _ u3_).alloc (Nat.le_refl _) (.cells #[.int .i64 rr, .int .i64 rh] 24))
    replace K := K.alloc (.cells #[.int .i64 rr, .int .i64 rh] 24)
    replace O := allocI O (.cells #[.int .i64 rr, .int .i64 rh] 24)
    replace K1 := K1.alloc (.cells #[.int .i64 rr, .int .i64 rh] 24)
    replace P := allocI P (.cells #[.int .i64 rr, .int .i64 rh] 24)
    have K2 := Blk.new u3_ 24 #[.int .i64 rr, .int .i64 rh]
    obtain ⟨f0K, f1K, f2K, f3K, f4K⟩ := blk_two K
    obtain ⟨f0K1, f1K1, f2K1, f3K1, f4K1⟩ := blk_two K1
    obtain ⟨f0K2, f1K2, f2K2, f3K2, f4K2⟩ := blk_two K2
    go_wp2_with fail
    clear f0K f1K f2K f3K f4K f0K1 f1K1 f2K1 f3K1 f4K1 f0K2 f1K2 f2K2 f3K2 f4K2
    generalize u3_.alloc (.cells #[.int .i64 rr, .int .i64 rh] 24) = u3_n at *
    refine (eqInts _ _ _ _ R _ O.at_ P.at_ nR).mono ?_
    rintro e u4_ ⟨rfl, C⟩
    replace B := bel_tr B C
    replace I1 := ints_below I1 C
    replace I2 := ints_below I2 C
    replace K := K.next C
    replace O := O.of_block C
    replace K1 := K1.next C
    replace P := P.of_block C
    replace K2 := K2.next C
    clear C
    obtain ⟨f0K, f1K, f2K, f3K, f4K⟩ := blk_two K
    obtain ⟨f0K1, f1K1, f2K1, f3K1, f4K1⟩ := blk_two K1
    obtain ⟨f0K2, f1K2, f2K2, f3K2, f4K2⟩ := blk_two K2
    go_wp2_with fail
    clear f0K f1K f2K f3K f4K f0K1 f1K1 f2K1 f3K1 f4K1 f0K2 f1K2 f2K2 f3K2 f4K2
    refine (eqInts _ _ _ _ R _ O.at_ P.at_ nR).mono ?_
    rintro e u5_ ⟨rfl, C⟩
    replace B := bel_tr B C
    replace I1 := ints_below I1 C
    replace I2 := ints_below I2 C
    replace K := K.next C
    replace O := O.of_block C
    replace K1 := K1.next C
    replace P := P.of_block C
    replace K2 := K2.next C
    clear C
    obtain ⟨f0K, f1K, f2K, f3K, f4K⟩ := blk_two K
    obtain ⟨f0K1, f1K1, f2K1, f3K1, f4K1⟩ := blk_two K1
    obtain ⟨f0K2, f1K2, f2K2, f3K2, f4K2⟩ := blk_two K2
    go_wp2_with fail
    clear f0K f1K f2K f3K f4K f0K1 f1K1 f2K1 f3K1 f4K1 f0K2 f1K2 f2K2 f3K2 f4K2
    go_ret
    exact ⟨rfl, B⟩
  have hrun : runBa r h cs ws = true := by
    cases e : runBa r h cs ws with
    | true => rfl
    | false => exact absurd (by rw [(runL_no e).1]; rfl) hq
  have e0 : (((runL r h cs ws).length : Int) == 0) = false := by rw [beq_eq_false_iff_ne]; omega
  have e00 : ((runL r h cs ws).length == 0) = false := by rw [beq_eq_false_iff_ne]; exact hq
  have hw := run_water hrun
  obtain ⟨⟨s1, s2⟩, ⟨s3, s4⟩, s5⟩ := run_sums hrun
  have s6 := spi_vfl hrun
  have hl := runL_len hrun
  have hl2 := spi_len hrun
  have hv1 := (run_is hrun).2.1
  have hb := end_bd (hrs cs ws) h (hok_hrs hv1 (run_is hrun).2.2.1) (run_is hrun).1.2.2.1 (run_is hrun).1.2.2.2
  rw [← (runL_yes hrun).2.2.2.1] at hb
  have hrl := (run_is hrun).1
  have T1 := Lib.hid (fun z m => (by have := (vfl_is hv1).2 z m; omega : -1000000 ≤ z ∧ z ≤ 1000000))
  have T2 := Lib.hid (fun z m => (by have := s5 z m; omega : -1000000 ≤ z ∧ z ≤ 1000000))
  have T3 := Lib.hid (fun z m => (by have := s6 z m; omega : -1000000 ≤ z ∧ z ≤ 1000000))
  have p1 := sum_nonneg (fun z m => (s5 z m).1)
  have p2 := sum_nonneg (fun z m => (s6 z m).1)
  have C3 := fun W h1 h2 => CI.out r h W h1 h2
  have w1_ : IntKind.i64.wrap (h + cs.sum) = h + cs.sum := by rw [IntKind.wrap_i64]; omega
  have w2_ : IntKind.i64.wrap ((runL r h cs ws).sum + (spiL r h cs ws).sum) = (runL r h cs ws).sum + (spiL r h cs ws).sum := by rw [IntKind.wrap_i64]; omega
  have w3_ : IntKind.i64.wrap ((runL r h cs ws).sum + (spiL r h cs ws).sum + runH r h cs ws) = h + cs.sum := by rw [← hw, IntKind.wrap_i64]; omega
  have nR2 : (spiL r h cs ws).length ≤ 1048576 := by rw [hl2]; exact nc
  clear hrun hq hw s1 s2 s3 s4 s5 s6 hl hl2 hv1 hb hrl p1 p2
  generalize runL r h cs ws = R at *
  generalize runR r h cs ws = rr at *
  generalize runH r h cs ws = rh at *
  generalize spiL r h cs ws = R2 at *
  have HC1 := Lib.hid C1
  have HC2 := Lib.hid C2
  have HC3 := Lib.hid C3
  clear C1 C2 C3 RI RS CI
  obtain ⟨f0K, f1K, f2K, f3K, f4K⟩ := blk_two K
  go_wp2_with fail
  clear f0K f1K f2K f3K f4K
  refine (HC1.out _ I1 I2).mono ?_
  rintro e u2_ ⟨vO, rfl, O, C⟩
  obtain ⟨bO, cO, rfl, _⟩ := O.ints
  replace B := bel_tr B C
  replace I1 := ints_below I1 C
  replace I2 := ints_below I2 C
  replace K := K.next C
  clear C
  replace B := B.alloc B.size (.cells #[.int .i64 rr, .int .i64 rh] 24)
  replace I1 := ints_below I1 ((Below.refl _ u2_).alloc (Nat.le_refl _) (.cells #[.int .i64 rr, .int .i64 rh] 24))
  replace I2 := ints_below I2 ((Below.refl _ u2_).alloc (Nat.le_refl _) (.cells #[.int .i64 rr, .int .i64 rh] 24))
  replace K := K.alloc (.cells #[.int .i64 rr, .int .i64 rh] 24)
  replace O := allocI O (.cells #[.int .i64 rr, .int .i64 rh] 24)
  have K1 := Blk.new u2_ 24 #[.int .i64 rr, .int .i64 rh]
  obtain ⟨f0K, f1K, f2K, f3K, f4K⟩ := blk_two K
  obtain ⟨f0K1, f1K1, f2K1, f3K1, f4K1⟩ := blk_two K1
  go_wp2_with fail
  clear f0K f1K f2K f3K f4K f0K1 f1K1 f2K1 f3K1 f4K1
  generalize u2_.alloc (.cells #[.int .i64 rr, .int .i64 rh] 24) = u2_n at *
  refine (HC2.out _ I1 I2).mono ?_
  rintro e u3_ ⟨vP, rfl, P, C⟩
  obtain ⟨bP, cP, rfl, _⟩ := P.ints
  replace B := bel_tr B C
  replace I1 := ints_below I1 C
  replace I2 := ints_below I2 C
  replace K := K.next C
  replace O := O.of_block C
  replace K1 := K1.next C
  clear C
  replace B := B.alloc B.size (.cells #[.int .i64 rr, .int .i64 rh] 24)
  replace I1 := ints_below I1 ((Below.refl _ u3_).alloc (Nat.le_refl _) (.cells #[.int .i64 rr, .int .i64 rh] 24))
  replace I2 := ints_below I2 ((Below.refl _ u3_).alloc (Nat.le_refl _) (.cells #[.int .i64 rr, .int .i64 rh] 24))
  replace K := K.alloc (.cells #[.int .i64 rr, .int .i64 rh] 24)
  replace O := allocI O (.cells #[.int .i64 rr, .int .i64 rh] 24)
  replace K1 := K1.alloc (.cells #[.int .i64 rr, .int .i64 rh] 24)
  replace P := allocI P (.cells #[.int .i64 rr, .int .i64 rh] 24)
  have K2 := Blk.new u3_ 24 #[.int .i64 rr, .int .i64 rh]
  obtain ⟨f0K, f1K, f2K, f3K, f4K⟩ := blk_two K
  obtain ⟨f0K1, f1K1, f2K1, f3K1, f4K1⟩ := blk_two K1
  obtain ⟨f0K2, f1K2, f2K2, f3K2, f4K2⟩ := blk_two K2
  go_wp2_with fail
  clear f0K f1K f2K f3K f4K f0K1 f1K1 f2K1 f3K1 f4K1 f0K2 f1K2 f2K2 f3K2 f4K2
  generalize u3_.alloc (.cells #[.int .i64 rr, .int .i64 rh] 24) = u3_n at *
  refine (eqInts _ _ _ _ R _ O.at_ P.at_ nR).mono ?_
  rintro e u4_ ⟨rfl, C⟩
  replace B := bel_tr B C
  replace I1 := ints_below I1 C
  replace I2 := ints_below I2 C
  replace K := K.next C
  replace O := O.of_block C
  replace K1 := K1.next C
  replace P := P.of_block C
  replace K2 := K2.next C
  clear C
  obtain ⟨f0K, f1K, f2K, f3K, f4K⟩ := blk_two K
  obtain ⟨f0K1, f1K1, f2K1, f3K1, f4K1⟩ := blk_two K1
  obtain ⟨f0K2, f1K2, f2K2, f3K2, f4K2⟩ := blk_two K2
  go_wp2_with fail
  clear f0K f1K f2K f3K f4K f0K1 f1K1 f2K1 f3K1 f4K1 f0K2 f1K2 f2K2 f3K2 f4K2
  obtain ⟨f0K, f1K, f2K, f3K, f4K⟩ := blk_two K
  obtain ⟨f0K1, f1K1, f2K1, f3K1, f4K1⟩ := blk_two K1
  obtain ⟨f0K2, f1K2, f2K2, f3K2, f4K2⟩ := blk_two K2
  have HMK80 := Lib.hid (fun (W : World) (hW : Below u4_.heap.size u4_ W) => (⟨⟨(hW.cell (p := ⟨u1.heap.size, 0, none⟩) (f4K)).trans f0K, (hW.cell (p := ⟨u1.heap.size, 1, none⟩) (f4K)).trans f1K, (hW.cell (p := ⟨u2_.heap.size, 1, none⟩) (f4K1)).trans f1K1⟩, hW⟩ : (W.cell? ⟨u1.heap.size, 0, none⟩ = some (.int .i64 r) ∧ W.cell? ⟨u1.heap.size, 1, none⟩ = some (.int .i64 h) ∧ W.cell? ⟨u2_.heap.size, 1, none⟩ = some (.int .i64 rh)) ∧ Below u4_.heap.size u4_ W))
  refine wp_region_held_drew (S := (fun w' => (w'.cell? ⟨u1.heap.size, 0, none⟩ = some (.int .i64 r) ∧ w'.cell? ⟨u1.heap.size, 1, none⟩ = some (.int .i64 h) ∧ w'.cell? ⟨u2_.heap.size, 1, none⟩ = some (.int .i64 rh)) ∧ Below u4_.heap.size u4_ w')) (by kernel_rfl) ?_ (fun hHeld => ?_)
  · exact ⟨⟨f0K, f1K, f1K1⟩, (Below.refl _ _).drew⟩
  refine wpAnyH_take (i := 0) (oi := ?ooa81_) (v := ?vva81_) ?hia81_ (by kernel_rfl) ?h3a81_ ?h4a81_ ?h5a81_ ?h6a81_ (by assumption) ?h8a81_
  case hia81_ => (simp only [List.getElem?_toArray, List.getElem?_cons_succ, List.getElem?_cons_zero]; rfl)
  case h3a81_ => kernel_rfl
  case h4a81_ => kernel_rfl
  case h6a81_ => (refine Or.inl ⟨by rfl, ?_⟩; intro w hSw; (try dsimp only at hSw); (go_simp <;> with_reducible rfl))
  case h5a81_ => exact fun _ _ _ h => h
  try simp only [Act.put, List.setIfInBounds_toArray, List.set_cons_zero, List.set_cons_succ]
  refine wpAnyH_take (i := 1) (oi := ?ooa82_) (v := ?vva82_) ?hia82_ (by kernel_rfl) ?h3a82_ ?h4a82_ ?h5a82_ ?h6a82_ (by assumption) ?h8a82_
  case hia82_ => (simp only [List.getElem?_toArray, List.getElem?_cons_succ, List.getElem?_cons_zero]; rfl)
  case h3a82_ => kernel_rfl
  case h4a82_ => kernel_rfl
  case h6a82_ => (refine Or.inl ⟨by rfl, ?_⟩; intro w hSw; (try dsimp only at hSw); (go_simp <;> with_reducible rfl))
  case h5a82_ => exact fun _ _ _ h => h
  try simp only [Act.put, List.setIfInBounds_toArray, List.set_cons_zero, List.set_cons_succ]
  refine wpAnyH_take (i := 2) (oi := ?ooa83_) (v := ?vva83_) ?hia83_ (by kernel_rfl) ?h3a83_ ?h4a83_ ?h5a83_ ?h6a83_ (by assumption) ?h8a83_
  case hia83_ => (simp only [List.getElem?_toArray, List.getElem?_cons_succ, List.getElem?_cons_zero]; rfl)
  case h3a83_ => kernel_rfl
  case h4a83_ => kernel_rfl
  case h6a83_ => (refine Or.inl ⟨by rfl, ?_⟩; intro w hSw; (try dsimp only at hSw); (go_simp <;> with_reducible rfl))
  case h5a83_ => exact fun _ _ _ h => h
  try simp only [Act.put, List.setIfInBounds_toArray, List.set_cons_zero, List.set_cons_succ]
  refine wpAnyH_take (i := 5) (oi := ?ooa84_) (v := ?vva84_) ?hia84_ (by kernel_rfl) ?h3a84_ ?h4a84_ ?h5a84_ ?h6a84_ (by assumption) ?h8a84_
  case hia84_ => (simp only [List.getElem?_toArray, List.getElem?_cons_succ, List.getElem?_cons_zero]; rfl)
  case h3a84_ => kernel_rfl
  case h4a84_ => kernel_rfl
  case h6a84_ => (refine Or.inl ⟨by rfl, ?_⟩; intro w hSw; (try dsimp only at hSw); (go_simp <;> with_reducible rfl))
  case h5a84_ => exact fun _ _ _ h => h
  try simp only [Act.put, List.setIfInBounds_toArray, List.set_cons_zero, List.set_cons_succ]
  refine wpAnyH_take (i := 7) (oi := ?ooa85_) (v := ?vva85_) ?hia85_ (by kernel_rfl) ?h3a85_ ?h4a85_ ?h5a85_ ?h6a85_ (by assumption) ?h8a85_
  case hia85_ => (simp only [List.getElem?_toArray, List.getElem?_cons_succ, List.getElem?_cons_zero]; rfl)
  case h3a85_ => kernel_rfl
  case h4a85_ => kernel_rfl
  case h6a85_ => (refine Or.inl ⟨by rfl, ?_⟩; intro w hSw; (try dsimp only at hSw); (go_simp <;> with_reducible rfl))
  case h5a85_ => exact fun _ _ _ h => h
  try simp only [Act.put, List.setIfInBounds_toArray, List.set_cons_zero, List.set_cons_succ]
  refine wpAnyH_take (i := 8) (oi := ?ooa86_) (v := ?vva86_) ?hia86_ (by kernel_rfl) ?h3a86_ ?h4a86_ ?h5a86_ ?h6a86_ (by assumption) ?h8a86_
  case hia86_ => (simp only [List.getElem?_toArray, List.getElem?_cons_succ, List.getElem?_cons_zero]; rfl)
  case h3a86_ => kernel_rfl
  case h4a86_ => kernel_rfl
  case h6a86_ => (refine Or.inl ⟨by rfl, ?_⟩; intro w hSw; (try dsimp only at hSw); (go_simp <;> with_reducible rfl))
  case h5a86_ => exact fun _ _ _ h => h
  try simp only [Act.put, List.setIfInBounds_toArray, List.set_cons_zero, List.set_cons_succ]
  refine wpAnyH_take (i := 9) (oi := ?ooa87_) (v := ?vva87_) ?hia87_ (by kernel_rfl) ?h3a87_ ?h4a87_ ?h5a87_ ?h6a87_ (by assumption) ?h8a87_
  case hia87_ => (simp only [List.getElem?_toArray, List.getElem?_cons_succ, List.getElem?_cons_zero]; rfl)
  case h3a87_ => kernel_rfl
  case h4a87_ => kernel_rfl
  case h6a87_ => (refine Or.inl ⟨by rfl, ?_⟩; intro w hSw; (try dsimp only at hSw); (go_simp <;> with_reducible rfl))
  case h5a87_ => exact fun _ _ _ h => h
  try simp only [Act.put, List.setIfInBounds_toArray, List.set_cons_zero, List.set_cons_succ]
  refine wpAnyH_take (i := 13) (oi := ?ooa88_) (v := ?vva88_) ?hia88_ (by kernel_rfl) ?h3a88_ ?h4a88_ ?h5a88_ ?h6a88_ (by assumption) ?h8a88_
  case hia88_ => (simp only [List.getElem?_toArray, List.getElem?_cons_succ, List.getElem?_cons_zero]; rfl)
  case h3a88_ => kernel_rfl
  case h4a88_ => kernel_rfl
  case h6a88_ => (refine Or.inl ⟨by rfl, ?_⟩; intro w hSw; (try dsimp only at hSw); (go_simp <;> with_reducible rfl))
  case h5a88_ => exact fun _ _ _ h => h
  try simp only [Act.put, List.setIfInBounds_toArray, List.set_cons_zero, List.set_cons_succ]
  refine wpAnyH_take (i := 14) (oi := ?ooa89_) (v := ?vva89_) ?hia89_ (by kernel_rfl) ?h3a89_ ?h4a89_ ?h5a89_ ?h6a89_ (by assumption) ?h8a89_
  case hia89_ => (simp only [List.getElem?_toArray, List.getElem?_cons_succ, List.getElem?_cons_zero]; rfl)
  case h3a89_ => kernel_rfl
  case h4a89_ => kernel_rfl
  case h6a89_ => (refine Or.inl ⟨by rfl, ?_⟩; intro w hSw; (try dsimp only at hSw); (go_simp <;> with_reducible rfl))
  case h5a89_ => exact fun _ _ _ h => h
  try simp only [Act.put, List.setIfInBounds_toArray, List.set_cons_zero, List.set_cons_succ]
  refine wpAnyH_ready (rs := [3]) (by kernel_rfl) (by simp) (AllReadyH.cons (o := ?ooa90_q0) ?hia90_q0 (fun K hK => ?hka90_q0) AllReadyH.nil)
  case hia90_q0 => (simp only [List.getElem?_toArray, List.getElem?_cons_succ, List.getElem?_cons_zero]; rfl)
  case hka90_q0 =>
    (rw [if_pos (by rfl)]; go_simp; refine (ltotal _ _ cs _ (ints_below I1 hHeld.2) nc T1.out).mono ?_; rintro e w' ⟨rfl, rfl⟩; go_wp2_with fail; refine hK.out _ _ (hHeld) (fun hHeld => ?_); clear hK K)
    try simp only [Act.put, List.setIfInBounds_toArray, List.set_cons_zero, List.set_cons_succ]
    refine wpAnyH_take (i := 4) (oi := ?ooa91_) (v := ?vva91_) ?hia91_ (by kernel_rfl) ?h3a91_ ?h4a91_ ?h5a91_ ?h6a91_ (by assumption) ?h8a91_
    case hia91_ => (simp only [List.getElem?_toArray, List.getElem?_cons_succ, List.getElem?_cons_zero]; rfl)
    case h3a91_ => kernel_rfl
    case h4a91_ => kernel_rfl
    case h6a91_ => (refine Or.inl ⟨by rfl, ?_⟩; intro w hSw; (try dsimp only at hSw); (go_simp <;> with_reducible rfl))
    case h5a91_ => exact fun _ _ _ h => h
    try simp only [Act.put, List.setIfInBounds_toArray, List.set_cons_zero, List.set_cons_succ]
    refine wpAnyH_ready (rs := [6]) (by kernel_rfl) (by simp) (AllReadyH.cons (o := ?ooa92_q0) ?hia92_q0 (fun K hK => ?hka92_q0) AllReadyH.nil)
    case hia92_q0 => (simp only [List.getElem?_toArray, List.getElem?_cons_succ, List.getElem?_cons_zero]; rfl)
    case hka92_q0 =>
      (rw [if_pos (by rfl)]; go_simp; refine (ltotal _ _ R _ (ints_below O.at_ hHeld.2) nR T2.out).mono ?_; rintro e w' ⟨rfl, rfl⟩; go_wp2_with fail; refine hK.out _ _ (hHeld) (fun hHeld => ?_); clear hK K)
      try simp only [Act.put, List.setIfInBounds_toArray, List.set_cons_zero, List.set_cons_succ]
      refine wpAnyH_ready (rs := [10]) (by kernel_rfl) (by simp) (AllReadyH.cons (o := ?ooa93_q0) ?hia93_q0 (fun K hK => ?hka93_q0) AllReadyH.nil)
      case hia93_q0 => (simp only [List.getElem?_toArray, List.getElem?_cons_succ, List.getElem?_cons_zero]; rfl)
      case hka93_q0 =>
        (rw [if_pos (by rfl)]; go_simp; refine (HC3.out _ (ints_below I1 hHeld.2) (ints_below I2 hHeld.2)).mono ?_; rintro e w10_ ⟨vq, rfl, Q, hb⟩; obtain ⟨bq, cq, rfl, _⟩ := Q.ints; have IQ := Q.at_; clear Q; go_wp2_with fail; refine hK.out _ _ (HMK80.out _ (bel_tr hHeld.2 hb)) (fun hHeld => ?_); clear hK K)
        try simp only [Act.put, List.setIfInBounds_toArray, List.set_cons_zero, List.set_cons_succ]
        refine wpAnyH_ready (rs := [11]) (by kernel_rfl) (by simp) (AllReadyH.cons (o := ?ooa94_q0) ?hia94_q0 (fun K hK => ?hka94_q0) AllReadyH.nil)
        case hia94_q0 => (simp only [List.getElem?_toArray, List.getElem?_cons_succ, List.getElem?_cons_zero]; rfl)
        case hka94_q0 =>
          (rw [if_pos (by rfl)]; go_simp; refine (ltotal _ _ R2 _ IQ nR2 T3.out).mono ?_; rintro e w' ⟨rfl, rfl⟩; go_wp2_with fail; refine hK.out _ _ (hHeld) (fun hHeld => ?_); clear hK K)
          try simp only [Act.put, List.setIfInBounds_toArray, List.set_cons_zero, List.set_cons_succ]
          refine wpAnyH_take (i := 12) (oi := ?ooa95_) (v := ?vva95_) ?hia95_ (by kernel_rfl) ?h3a95_ ?h4a95_ ?h5a95_ ?h6a95_ (by assumption) ?h8a95_
          case hia95_ => (simp only [List.getElem?_toArray, List.getElem?_cons_succ, List.getElem?_cons_zero]; rfl)
          case h3a95_ => kernel_rfl
          case h4a95_ => kernel_rfl
          case h6a95_ => (refine Or.inl ⟨by rfl, ?_⟩; intro w hSw; (try dsimp only at hSw); (go_simp <;> with_reducible rfl))
          case h5a95_ => exact fun _ _ _ h => h
          try simp only [Act.put, List.setIfInBounds_toArray, List.set_cons_zero, List.set_cons_succ]
          refine wpAnyH_take (i := 15) (oi := ?ooa96_) (v := ?vva96_) ?hia96_ (by kernel_rfl) ?h3a96_ ?h4a96_ ?h5a96_ ?h6a96_ (by assumption) ?h8a96_
          case hia96_ => (simp only [List.getElem?_toArray, List.getElem?_cons_succ, List.getElem?_cons_zero]; rfl)
          case h3a96_ => kernel_rfl
          case h4a96_ => kernel_rfl
          case h6a96_ => (refine Or.inl ⟨by rfl, ?_⟩; intro w hSw; (try dsimp only at hSw); (go_simp <;> with_reducible rfl))
          case h5a96_ => exact fun _ _ _ h => h
          try simp only [Act.put, List.setIfInBounds_toArray, List.set_cons_zero, List.set_cons_succ]
          refine wpAnyH_take (i := 16) (oi := ?ooa97_) (v := ?vva97_) ?hia97_ (by kernel_rfl) ?h3a97_ ?h4a97_ ?h5a97_ ?h6a97_ (by assumption) ?h8a97_
          case hia97_ => (simp only [List.getElem?_toArray, List.getElem?_cons_succ, List.getElem?_cons_zero]; rfl)
          case h3a97_ => kernel_rfl
          case h4a97_ => kernel_rfl
          case h6a97_ => (refine Or.inl ⟨by rfl, ?_⟩; intro w hSw; (try dsimp only at hSw); (go_simp <;> with_reducible rfl))
          case h5a97_ => exact fun _ _ _ h => h
          try simp only [Act.put, List.setIfInBounds_toArray, List.set_cons_zero, List.set_cons_succ]
          refine wpAnyH_take (i := 17) (oi := ?ooa98_) (v := ?vva98_) ?hia98_ (by kernel_rfl) ?h3a98_ ?h4a98_ ?h5a98_ ?h6a98_ (by assumption) ?h8a98_
          case hia98_ => (simp only [List.getElem?_toArray, List.getElem?_cons_succ, List.getElem?_cons_zero]; rfl)
          case h3a98_ => kernel_rfl
          case h4a98_ => kernel_rfl
          case h6a98_ => (refine Or.inl ⟨by rfl, ?_⟩; intro w hSw; (try dsimp only at hSw); (go_simp <;> with_reducible rfl))
          case h5a98_ => exact fun _ _ _ h => h
          try simp only [Act.put, List.setIfInBounds_toArray, List.set_cons_zero, List.set_cons_succ]
          refine wpAnyH_done (by kernel_rfl) ?_ _
          clear HMK80
          have C := hHeld.2
          replace B := bel_tr B C
          clear hHeld
          go_wp2_with fail
          go_ret
          exact ⟨rfl, B⟩

set_option maxRecDepth 100000 in
theorem lifted (os : Os) (started : os.Started) (H : Type) (enc : TypeId × Value → H) :
    ReturnsInHanded {} Try.checked os 6 .any (Rows.fnRunBasinSumSpec.pre6 enc Try.prog Try.f6 Rows.fnRunBasinSumRow.domain false) (Rows.fnRunBasinSumSpec.post enc Try.prog Try.f6 false true false false) := by
  refine returnsInHanded_of_change (C := Try.checked) own started (by kernel_rfl) Try.func6
    (ChangeSpec.witness6 (enc := enc) (C := Try.checked) false ⟨#[], #[.slice none 0 0], []⟩ 8 (by kernel_rfl) (by kernel_rfl) (by kernel_rfl) (by kernel_rfl)) ?_
  intro W base args ds gs before hval0 hW hcnd _
  have hval : ∀ (j : Nat) t v, Try.f6.params[j]? = some t → args[j]? = some v → Value.okWide Try.prog W .any base t v := hval0
  have hW' := hW
  obtain ⟨p, q, hA0, hV, rfl, hfz, hnd⟩ := hW
  have hA : DataW.TrodAll enc Try.prog W 0 (fun _ => true) true Try.f6.params.toList args.toList ds p := hA0
  rw [Try.params6] at hA hval
  obtain ⟨v0, vs0, e0, es0, p0, q0, hargs, rfl, rfl, h0, r0⟩ := trodAll_cons hA
  obtain ⟨rfl, rfl, rfl⟩ := trodAll_nil r0
  obtain rfl : args = #[v0] := by cases args; simp_all
  obtain ⟨rfl, rfl⟩ := trodVars_none hV
  have k0 := h0
  have lt0 : ∀ x ∈ p0, x.block < W.heap.size := by obtain ⟨m, hm⟩ := k0; exact DataW.trod_lt m _ _ _ hm
  obtain ⟨a0, len0, cap0, rfl⟩ := okWide_slice Try.underlying22 (hval 0 22 v0 rfl rfl)
  obtain ⟨z0, w0⟩ : ∃ zs, IsRow .u8 W a0 len0 cap0 zs := by
    obtain ⟨fuel, hf⟩ := h0
    rcases open_ints Try.underlying22 Try.underlying5 (by kernel_rfl) hf with ⟨hcs, _⟩ | ⟨x, l, c, zs, hcs, _, hl, hm, hz, _, hcell, hwz⟩
    · simp [Value.cells] at hcs
      obtain ⟨rfl, rfl, rfl⟩ := hcs
      exact ⟨[], .inl ⟨rfl, rfl, rfl, rfl⟩⟩
    · simp [Value.cells] at hcs
      obtain ⟨rfl, rfl, rfl⟩ := hcs
      exact ⟨zs, .inr ⟨_, rfl, hl, hm, by simpa using hz, hcell, hwz⟩⟩
  clear hA0 hval0
  refine (walk a0 len0 cap0 z0 W w0).mono fun e W' ⟨he, bel⟩ => ?_
  subst he
  exact ⟨_, rfl, _, _, _, [], _, [], hW', trodAll_mk1 (shut_bool Try.underlying4 _), (trodAll_cons_mk (Below.trod laidOut (by kernel_rfl) (of_decide_eq_true (by kernel_rfl)) k0 bel lt0) trodAll_mk0), rfl, bel.frame _, fun h => by cases h⟩

theorem over : Rows.fnRunBasinSumRow.holds Try.pinned (OpenSpec.ofChange Rows.fnRunBasinSumSpec) :=
  OpenClaim.holds_of_wide 6 Try.f6 rfl rfl rfl rfl rfl rfl rfl ⟨rfl, rfl, rfl, rfl, rfl⟩ rfl rfl rfl rfl rfl (by kernel_rfl) Try.func6 (by kernel_rfl)
    (of_decide_eq_true (by kernel_rfl)) (by unfold Func.isWrapper; first | (rw [if_pos (by decide +kernel)]; kernel_rfl) | (rw [if_neg (by decide +kernel)]; exact ⟨rfl, rfl⟩))
    (fun os started H enc _ => lifted os started H enc)

end Go.Proofs.Ytfcgjiciobfncaa.fnRunBasinSum
namespace Go.Proofs.Ytfcgjiciobfncaa
/-- the statement -/
theorem fnRunBasinSum_holds : Rows.FnRunBasinSumSaid := fnRunBasinSum.over
end Go.Proofs.Ytfcgjiciobfncaa
