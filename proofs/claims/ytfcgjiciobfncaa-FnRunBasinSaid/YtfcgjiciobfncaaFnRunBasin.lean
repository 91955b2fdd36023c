/- For every input the law answers true, and its argument reads afterwards as before: days are hours. No condition. -/
import Derived.Test.YtfcgjiciobfncaaRows
import Derived.Test.YtfcgjiciobfncaaDrawBb
import Derived.Test.YtfcgjiciobfncaaEqI
import Derived.Test.YtfcgjiciobfncaaRunT
import Derived.Test.YtfcgjiciobfncaaBasQ
import Derived.Test.YtfcgjiciobfncaaLawBa
import Derived.WalkKit
import Derived.Deep.RegionHeld3
import Derived.Deep.DeepCutAuto
import Derived.Deep.QuietTactic
import Derived.BigQuiet
import Derived.ProofKit
import Derived.OpenShut
import Derived.ShutString
import Derived.ChangeOld
import Derived.Below
import Derived.Lib.SmallJoins
namespace Go.Proofs.Ytfcgjiciobfncaa.fnRunBasin
open Go.ChangeShapes Go.WideShapes Go.ChangeAt Go.RowKit Go.Joins
open Go.ChangeMaps (open_string shut_string)
set_option linter.unusedVariables false
set_option linter.unusedSimpArgs false

theorem own : ownKnob Try.prog.godebug = none := by kernel_rfl
theorem laidOut : laidOutB Try.prog = true := by kernel_rfl

set_option maxRecDepth 100000 in
set_option maxHeartbeats 8000000 in
theorem walk (a0 : Option Addr) (len0 cap0 : Nat) (z0 : List Int) (w : World) (w0 : IsRow .u8 w a0 len0 cap0 z0) :
    Calls Try.prog 5 #[.slice a0 len0 cap0] w fun e w' => e = .returned (.bool true) ∧ Below w.heap.size w w' := by
  by_cases big : (1048576 : Int) < (len0 : Int)
  · go_enter Try.func5, Try.ntmps5
    go_wp2
    go_ret
    exact ⟨rfl, Below.refl _ _⟩
  go_enter Try.func5, Try.ntmps5
  go_wp2_with fail
  refine (drawRun a0 len0 cap0 z0 _ w0).mono ?_
  rintro e u1 ⟨r, h, b1, c1, cs, b2, c2, ws, rfl, ⟨r0, r1, h0, h1⟩, ⟨lc, hcs, O1, p1⟩, ⟨lw, hws, O2, p2⟩, B⟩
  clear w0 big
  have I1 := O1.at_
  have I2 := O2.at_
  clear O1 O2
  have nc : cs.length ≤ 1048576 := by omega
  have nw : ws.length ≤ 1048576 := by omega
  have RI : Hid (∀ (x y : Int) (W : World), IsInts W b1 cs → IsInts W b2 ws → Calls Try.prog 24 #[.agg #[.int .i64 x, .int .i64 y], .slice b1 cs.length c1, .slice b2 ws.length c2] W (OutIB W (runL x y cs ws) (runR x y cs ws) (runH x y cs ws))) := fun x y W h1 h2 => iRun x y b1 b2 c1 c2 cs ws W h1 h2 nc nw
  have RS : Hid (∀ (x y : Int) (W : World), IsInts W b1 cs → IsInts W b2 ws → Calls Try.prog 25 #[.agg #[.int .i64 x, .int .i64 y], .slice b1 cs.length c1, .slice b2 ws.length c2] W (OutIB W (runL x y cs ws) (runR x y cs ws) (runH x y cs ws))) := fun x y W h1 h2 => sRun x y b1 b2 c1 c2 cs ws W h1 h2 nc nw
  have K := Blk.new u1 24 #[.int .i64 r, .int .i64 h]
  replace B := B.alloc B.size (.cells #[.int .i64 r, .int .i64 h] 24)
  replace I1 := ints_below I1 ((Below.refl _ u1).alloc (Nat.le_refl _) (.cells #[.int .i64 r, .int .i64 h] 24))
  replace I2 := ints_below I2 ((Below.refl _ u1).alloc (Nat.le_refl _) (.cells #[.int .i64 r, .int .i64 h] 24))
  clear hcs hws
  have C1 := fun W h1 h2 => RI.out r h W h1 h2
  have C2 := fun W h1 h2 => RS.out r h W h1 h2
  have nR : (runL r h cs ws).length ≤ 1048576 := by
    cases e : runBa r h cs ws with
    | false => rw [(runL_no e).1]; simp
    | true => rw [runL_len e]; exact nc
  by_cases hq : (runL r h cs ws).length = 0
  · have e0 : (((runL r h cs ws).length : Int) == 0) = true := by rw [beq_iff_eq]; omega
    have e00 : ((runL r h cs ws).length == 0) = true := by rw [beq_iff_eq]; exact hq
    clear hq
    generalize runL r h cs ws = R at *
    generalize runR r h cs ws = rr at *
    generalize runH r h cs ws = rh at *
    have HC1 := Lib.hid C1
    have HC2 := Lib.hid C2
    clear C1 C2 RI RS 
    obtain ⟨f0K, f1K, f2K, f3K, f4K⟩ := blk_two K
    go_wp2_with fail
    clear f0K f1K f2K f3K f4K
    refine (HC1.out _ I1 I2).mono ?_
    rintro e u2_ ⟨vO, rfl, O, C⟩
    obtain ⟨bO, cO, rfl, _⟩ := O.ints
    replace B := bel_tr B C
    replace I1 := ints_below I1 C
    replace I2 := ints_below I2 C
    replace K := K.next C
    clear C
    replace B := B.alloc B.size (.cells #[.int .i64 rr, .int .i64 rh] 24)
    replace I1 := ints_below I1 ((Below.refl _ u2_).alloc (Nat.le_refl _) (.cells #[.int .i64 rr, .int .i64 rh] 24))
    replace I2 := ints_below I2 ((Below.refl _ u2_).alloc (Nat.le_refl _) (.cells #[.int .i64 rr, .int .i64 rh] 24))
    replace K := K.alloc (.cells #[.int .i64 rr, .int .i64 rh] 24)
    replace O := allocI O (.cells #[.int .i64 rr, .int .i64 rh] 24)
    have K1 := Blk.new u2_ 24 #[.int .i64 rr, .int .i64 rh]
    obtain ⟨f0K, f1K, f2K, f3K, f4K⟩ := blk_two K
    obtain ⟨f0K1, f1K1, f2K1, f3K1, f4K1⟩ := blk_two K1
    go_wp2_with fail
    clear f0K f1K f2K f3K f4K f0K1 f1K1 f2K1 f3K1 f4K1
    generalize u2_.alloc (.cells #[.int .i64 rr, .int .i64 rh] 24) = u2_n at *
    refine (HC2.out _ I1 I2).mono ?_
    rintro e u3_ ⟨vP, rfl, P, C⟩
    obtain ⟨bP, cP, rfl, _⟩ := P.ints
    replace B := bel_tr B C
    replace I1 := ints_below I1 C
    replace I2 := ints_below I2 C
    replace K := K.next C
    replace O := O.of_block C
    replace K1 := K1.next C
    clear C
    replace B := B.alloc B.size (.cells #[.int .i64 rr, .int .i64 rh] 24)
    replace I1 := ints_below I1 ((Below.refl _ u3_).alloc (Nat.le_refl _) (.cells #[.int .i64 rr, .int .i64 rh] 24))
    replace I2 := ints_below I2 ((Below.refl _ u3_).alloc (Nat.le_refl _) (.cells #[.int .i64 rr, .int .i64 rh] 24))
    replace K := K.alloc (.cells #[.int .i64 rr, .int .i64 rh] 24)
    replace O := allocI O (.cells #[.int .i64 rr, .int .i64 rh] 24)
    replace K1 := K1.alloc (.cells #[.int .i64 rr, .int .i64 rh] 24)
    replace P := allocI P (.cells #[.int .i64 rr, .int .i64 rh] 24)
    have K2 := Blk.new u3_ 24 #[.int .i64 rr, .int .i64 rh]
    obtain ⟨f0K, f1K, f2K, f3K, f4K⟩ := blk_two K
    obtain ⟨f0K1, f1K1, f2K1, f3K1, f4K1⟩ := blk_two K1
    obtain ⟨f0K2, f1K2, f2K2, f3K2, f4K2⟩ := blk_two K2
    go_wp2_with fail
    clear f0K f1K f2K f3K f4K f0K1 f1K1 f2K1 f3K1 f4K1 f0K2 f1K2 f2K2 f3K2 f4K2
    generalize u3_.alloc (.cells #[.int .i64 rr, .int .i64 rh] 24) = u3_n at *
    refine (eqInts _ _ _ _ R _ O.at_ P.at_ nR).mono ?_
    rintro e u4_ ⟨rfl, C⟩
    replace B := bel_tr B C
    replace I1 := ints_below I1 C
    replace I2 := ints_below I2 C
    replace K := K.next C
    replace O := O.of_block C
    replace K1 := K1.next C
    replace P := P.of_block C
    replace K2 := K2.next C
    clear C
    obtain ⟨f0K, f1K, f2K, f3K, f4K⟩ := blk_two K
    obtain ⟨f0K1, f1K1, f2K1, f3K1, f4K1⟩ := blk_two K1
    obtain ⟨f0K2, f1K2, f2K2, f3K2, f4K2⟩ := blk_two K2
    go_wp2_with fail
    clear f0K f1K f2K f3K f4K f0K1 f1K1 f2K1 f3K1 f4K1 f0K2 f1K2 f2K2 f3K2 f4K2
    refine (eqInts _ _ _ _ R _ O.at_ P.at_ nR).mono ?_
    rintro e u5_ ⟨rfl, C⟩
    replace B := bel_tr B C
    replace I1 := ints_below I1 C
    replace I2 := ints_below I2 C
    replace K := K.next C
    replace O := O.of_block C
    replace K1 := K1.next C
    replace P := P.of_block C
    replace K2 := K2.next C
    clear C
    obtain ⟨f0K, f1K, f2K, f3K, f4K⟩ := blk_two K
    obtain ⟨f0K1, f1K1, f2K1, f3K1, f4K1⟩ := blk_two K1
    obtain ⟨f0K2, f1K2, f2K2, f3K2, f4K2⟩ := blk_two K2
    go_wp2_with fail
    clear f0K f1K f2K f3K f4K f0K1 f1K1 f2K1 f3K1 f4K1 f0K2 f1K2 f2K2 f3K2 f4K2
    go_ret
    exact ⟨rfl, B⟩
  have hrun : runBa r h cs ws = true := by
    cases e : runBa r h cs ws with
    | true => rfl
    | false => exact absurd (by rw [(runL_no e).1]; rfl) hq
  have e0 : (((runL r h cs ws).length : Int) == 0) = false := by rw [beq_eq_false_iff_ne]; omega
  have e00 : ((runL r h cs ws).length == 0) = false := by rw [beq_eq_false_iff_ne]; exact hq
  have hl := runL_len hrun
  have hlw := (run_is hrun).2.2.2
  have l0 : 0 < cs.length := by omega
  obtain ⟨m, hm⟩ : ∃ m, cs.length / 2 = m := ⟨_, rfl⟩
  have m1 : m ≤ cs.length := by omega
  obtain ⟨t1, t2⟩ := run_takes hrun m1
  obtain ⟨x1, x2, x3, x4, x5⟩ := run_split hrun m1
  obtain ⟨g1, o1, rfl⟩ := ints_some I1 l0
  obtain ⟨g2, o2, rfl⟩ := ints_some I2 (by omega)
  have la := runL_len t1
  have lb := runL_len t2
  rw [List.length_take, Nat.min_eq_left m1] at la
  rw [List.length_drop] at lb
  have C3 : ∀ W, IsInts W (some ⟨g1, o1, none⟩) cs → IsInts W (some ⟨g2, o2, none⟩) ws → Calls Try.prog 24 #[.agg #[.int .i64 r, .int .i64 h], .slice (some ⟨g1, o1, none⟩) m c1, .slice (some ⟨g2, o2, none⟩) m c2] W (OutIB W (runL r h (cs.take m) (ws.take m)) r (endB r h ((hrs cs ws).take m))) := fun W h1 h2 => by
    have := iRun r h (some ⟨g1, o1, none⟩) (some ⟨g2, o2, none⟩) c1 c2 (cs.take m) (ws.take m) W (ints_takeI h1 m) (ints_takeI h2 m) (by rw [List.length_take]; omega) (by rw [List.length_take]; omega)
    rw [x2, x4, List.length_take, List.length_take, Nat.min_eq_left m1, Nat.min_eq_left (by omega)] at this; exact this
  have C4 : ∀ W, IsInts W (some ⟨g1, o1, none⟩) cs → IsInts W (some ⟨g2, o2, none⟩) ws → Calls Try.prog 24 #[.agg #[.int .i64 r, .int .i64 (endB r h ((hrs cs ws).take m))], .slice (some ⟨g1, o1 + m, none⟩) (cs.length - m) (c1 - m), .slice (some ⟨g2, o2 + m, none⟩) (ws.length - m) (c2 - m)] W (OutIB W (runL r (endB r h ((hrs cs ws).take m)) (cs.drop m) (ws.drop m)) r (runH r h cs ws)) := fun W h1 h2 => by
    have := iRun r (endB r h ((hrs cs ws).take m)) (some ⟨g1, o1 + m, none⟩) (some ⟨g2, o2 + m, none⟩) (c1 - m) (c2 - m) (cs.drop m) (ws.drop m) W (ints_dropI h1 m) (ints_dropI h2 m) (by rw [List.length_drop]; omega) (by rw [List.length_drop]; omega)
    rw [x3, x5, List.length_drop, List.length_drop] at this; exact this
  have hrr := (runL_yes hrun).2.2.1
  rw [hrr] at C1 C2
  have w1_ : Int.tdiv ((runL r h cs ws).length : Int) 2 = (m : Int) := by rw [Int.tdiv_eq_ediv_of_nonneg (by omega), hl]; omega
  have w2_ : IntKind.i64.wrap (m : Int) = (m : Int) := by rw [IntKind.wrap_i64]; omega
  have j1 : (m : Int) ≤ (c1 : Int) := by omega
  have j2 : (m : Int) ≤ (c2 : Int) := by omega
  have j3 : (m : Int) ≤ (cs.length : Int) := by omega
  have j4 : (m : Int) ≤ (ws.length : Int) := by omega
  have j5 : (0 : Int) ≤ (m : Int) := by omega
  have j6 : ¬ c1 = m := by omega
  have j7 : ¬ c2 = m := by omega
  have lA : (runL r h (cs.take m) (ws.take m)).length ≤ 100000 := by rw [la]; omega
  have lB : (runL r (endB r h ((hrs cs ws).take m)) (cs.drop m) (ws.drop m)).length ≤ 100000 := by rw [lb]; omega
  have HX1 := Lib.hid x1
  have HC1 := Lib.hid C1
  have HC2 := Lib.hid C2
  have HC3 := Lib.hid C3
  have HC4 := Lib.hid C4
  clear C1 C2 C3 C4 RI RS hq hrun hl hlw hm t1 t2 x1 x2 x3 x4 x5 la lb hrr
  generalize runL r h (cs.take m) (ws.take m) = RA at *
  generalize runL r (endB r h ((hrs cs ws).take m)) (cs.drop m) (ws.drop m) = RB at *
  generalize endB r h ((hrs cs ws).take m) = em at *
  generalize runL r h cs ws = R at *
  generalize runH r h cs ws = rh at *
  obtain ⟨f0K, f1K, f2K, f3K, f4K⟩ := blk_two K
  go_wp2_with fail
  clear f0K f1K f2K f3K f4K
  refine (HC1.out _ I1 I2).mono ?_
  rintro e u2_ ⟨vO, rfl, O, C⟩
  obtain ⟨bO, cO, rfl, _⟩ := O.ints
  replace B := bel_tr B C
  replace I1 := ints_below I1 C
  replace I2 := ints_below I2 C
  replace K := K.next C
  clear C
  replace B := B.alloc B.size (.cells #[.int .i64 r, .int .i64 rh] 24)
  replace I1 := ints_below I1 ((Below.refl _ u2_).alloc (Nat.le_refl _) (.cells #[.int .i64 r, .int .i64 rh] 24))
  replace I2 := ints_below I2 ((Below.refl _ u2_).alloc (Nat.le_refl _) (.cells #[.int .i64 r, .int .i64 rh] 24))
  replace K := K.alloc (.cells #[.int .i64 r, .int .i64 rh] 24)
  replace O := allocI O (.cells #[.int .i64 r, .int .i64 rh] 24)
  have K1 := Blk.new u2_ 24 #[.int .i64 r, .int .i64 rh]
  obtain ⟨f0K, f1K, f2K, f3K, f4K⟩ := blk_two K
  obtain ⟨f0K1, f1K1, f2K1, f3K1, f4K1⟩ := blk_two K1
  go_wp2_with fail
  clear f0K f1K f2K f3K f4K f0K1 f1K1 f2K1 f3K1 f4K1
  generalize u2_.alloc (.cells #[.int .i64 r, .int .i64 rh] 24) = u2_n at *
  refine (HC2.out _ I1 I2).mono ?_
  rintro e u3_ ⟨vP, rfl, P, C⟩
  obtain ⟨bP, cP, rfl, _⟩ := P.ints
  replace B := bel_tr B C
  replace I1 := ints_below I1 C
  replace I2 := ints_below I2 C
  replace K := K.next C
  replace O := O.of_block C
  replace K1 := K1.next C
  clear C
  replace B := B.alloc B.size (.cells #[.int .i64 r, .int .i64 rh] 24)
  replace I1 := ints_below I1 ((Below.refl _ u3_).alloc (Nat.le_refl _) (.cells #[.int .i64 r, .int .i64 rh] 24))
  replace I2 := ints_below I2 ((Below.refl _ u3_).alloc (Nat.le_refl _) (.cells #[.int .i64 r, .int .i64 rh] 24))
  replace K := K.alloc (.cells #[.int .i64 r, .int .i64 rh] 24)
  replace O := allocI O (.cells #[.int .i64 r, .int .i64 rh] 24)
  replace K1 := K1.alloc (.cells #[.int .i64 r, .int .i64 rh] 24)
  replace P := allocI P (.cells #[.int .i64 r, .int .i64 rh] 24)
  have K2 := Blk.new u3_ 24 #[.int .i64 r, .int .i64 rh]
  obtain ⟨f0K, f1K, f2K, f3K, f4K⟩ := blk_two K
  obtain ⟨f0K1, f1K1, f2K1, f3K1, f4K1⟩ := blk_two K1
  obtain ⟨f0K2, f1K2, f2K2, f3K2, f4K2⟩ := blk_two K2
  go_wp2_with fail
  clear f0K f1K f2K f3K f4K f0K1 f1K1 f2K1 f3K1 f4K1 f0K2 f1K2 f2K2 f3K2 f4K2
  generalize u3_.alloc (.cells #[.int .i64 r, .int .i64 rh] 24) = u3_n at *
  refine (eqInts _ _ _ _ R _ O.at_ P.at_ nR).mono ?_
  rintro e u4_ ⟨rfl, C⟩
  replace B := bel_tr B C
  replace I1 := ints_below I1 C
  replace I2 := ints_below I2 C
  replace K := K.next C
  replace O := O.of_block C
  replace K1 := K1.next C
  replace P := P.of_block C
  replace K2 := K2.next C
  clear C
  obtain ⟨f0K, f1K, f2K, f3K, f4K⟩ := blk_two K
  obtain ⟨f0K1, f1K1, f2K1, f3K1, f4K1⟩ := blk_two K1
  obtain ⟨f0K2, f1K2, f2K2, f3K2, f4K2⟩ := blk_two K2
  go_wp2_with fail
  clear f0K f1K f2K f3K f4K f0K1 f1K1 f2K1 f3K1 f4K1 f0K2 f1K2 f2K2 f3K2 f4K2
  obtain ⟨f0K, f1K, f2K, f3K, f4K⟩ := blk_two K
  obtain ⟨f0K1, f1K1, f2K1, f3K1, f4K1⟩ := blk_two K1
  obtain ⟨f0K2, f1K2, f2K2, f3K2, f4K2⟩ := blk_two K2
  have HMK126 := Lib.hid (fun (W : World) (hW : Below u4_.heap.size u4_ W) => (⟨⟨(hW.cell (p := ⟨u1.heap.size, 0, none⟩) (f4K)).trans f0K, (hW.cell (p := ⟨u1.heap.size, 1, none⟩) (f4K)).trans f1K⟩, hW⟩ : (W.cell? ⟨u1.heap.size, 0, none⟩ = some (.int .i64 r) ∧ W.cell? ⟨u1.heap.size, 1, none⟩ = some (.int .i64 h)) ∧ Below u4_.heap.size u4_ W))
  refine wp_region_held_drew (S := (fun w' => (w'.cell? ⟨u1.heap.size, 0, none⟩ = some (.int .i64 r) ∧ w'.cell? ⟨u1.heap.size, 1, none⟩ = some (.int .i64 h)) ∧ Below u4_.heap.size u4_ w')) (by kernel_rfl) ?_ (fun hHeld => ?_)
  · exact ⟨⟨f0K, f1K⟩, (Below.refl _ _).drew⟩
  refine wpAnyH_take (i := 0) (oi := ?ooa127_) (v := ?vva127_) ?hia127_ (by kernel_rfl) ?h3a127_ ?h4a127_ ?h5a127_ ?h6a127_ (by assumption) ?h8a127_
  case hia127_ => (simp only [List.getElem?_toArray, List.getElem?_cons_succ, List.getElem?_cons_zero]; rfl)
  case h3a127_ => kernel_rfl
  case h4a127_ => kernel_rfl
  case h6a127_ => (refine Or.inl ⟨by rfl, ?_⟩; intro w hSw; (try dsimp only at hSw); (go_simp <;> with_reducible rfl))
  case h5a127_ => exact fun _ _ _ h => h
  try simp only [Act.put, List.setIfInBounds_toArray, List.set_cons_zero, List.set_cons_succ]
  refine wpAnyH_take (i := 1) (oi := ?ooa128_) (v := ?vva128_) ?hia128_ (by kernel_rfl) ?h3a128_ ?h4a128_ ?h5a128_ ?h6a128_ (by assumption) ?h8a128_
  case hia128_ => (simp only [List.getElem?_toArray, List.getElem?_cons_succ, List.getElem?_cons_zero]; rfl)
  case h3a128_ => kernel_rfl
  case h4a128_ => kernel_rfl
  case h6a128_ => (refine Or.inl ⟨by rfl, ?_⟩; intro w hSw; (try dsimp only at hSw); (go_simp <;> with_reducible rfl))
  case h5a128_ => exact fun _ _ _ h => h
  try simp only [Act.put, List.setIfInBounds_toArray, List.set_cons_zero, List.set_cons_succ]
  refine wpAnyH_take (i := 2) (oi := ?ooa129_) (v := ?vva129_) ?hia129_ (by kernel_rfl) ?h3a129_ ?h4a129_ ?h5a129_ ?h6a129_ (by assumption) ?h8a129_
  case hia129_ => (simp only [List.getElem?_toArray, List.getElem?_cons_succ, List.getElem?_cons_zero]; rfl)
  case h3a129_ => kernel_rfl
  case h4a129_ => kernel_rfl
  case h6a129_ => (refine Or.inl ⟨by rfl, ?_⟩; intro w hSw; (try dsimp only at hSw); (go_simp <;> with_reducible rfl))
  case h5a129_ => exact fun _ _ _ h => h
  try simp only [Act.put, List.setIfInBounds_toArray, List.set_cons_zero, List.set_cons_succ]
  refine wpAnyH_take (i := 3) (oi := ?ooa130_) (v := ?vva130_) ?hia130_ (by kernel_rfl) ?h3a130_ ?h4a130_ ?h5a130_ ?h6a130_ (by assumption) ?h8a130_
  case hia130_ => (simp only [List.getElem?_toArray, List.getElem?_cons_succ, List.getElem?_cons_zero]; rfl)
  case h3a130_ => kernel_rfl
  case h4a130_ => kernel_rfl
  case h6a130_ => (refine Or.inl ⟨by rfl, ?_⟩; intro w hSw; (try dsimp only at hSw); (go_simp <;> with_reducible rfl))
  case h5a130_ => exact fun _ _ _ h => h
  try simp only [Act.put, List.setIfInBounds_toArray, List.set_cons_zero, List.set_cons_succ]
  refine wpAnyH_take (i := 4) (oi := ?ooa131_) (v := ?vva131_) ?hia131_ (by kernel_rfl) ?h3a131_ ?h4a131_ ?h5a131_ ?h6a131_ (by assumption) ?h8a131_
  case hia131_ => (simp only [List.getElem?_toArray, List.getElem?_cons_succ, List.getElem?_cons_zero]; rfl)
  case h3a131_ => kernel_rfl
  case h4a131_ => kernel_rfl
  case h6a131_ => (refine Or.inl ⟨by rfl, ?_⟩; intro w hSw; (try dsimp only at hSw); (go_simp <;> with_reducible rfl))
  case h5a131_ => exact fun _ _ _ h => h
  try simp only [Act.put, List.setIfInBounds_toArray, List.set_cons_zero, List.set_cons_succ]
  refine wpAnyH_take (i := 5) (oi := ?ooa132_) (v := ?vva132_) ?hia132_ (by kernel_rfl) ?h3a132_ ?h4a132_ ?h5a132_ ?h6a132_ (by assumption) ?h8a132_
  case hia132_ => (simp only [List.getElem?_toArray, List.getElem?_cons_succ, List.getElem?_cons_zero]; rfl)
  case h3a132_ => kernel_rfl
  case h4a132_ => kernel_rfl
  case h6a132_ => (refine Or.inl ⟨by rfl, ?_⟩; intro w hSw; (try dsimp only at hSw); (go_simp <;> with_reducible rfl))
  case h5a132_ => exact fun _ _ _ h => h
  try simp only [Act.put, List.setIfInBounds_toArray, List.set_cons_zero, List.set_cons_succ]
  refine wpAnyH_take (i := 6) (oi := ?ooa133_) (v := ?vva133_) ?hia133_ (by kernel_rfl) ?h3a133_ ?h4a133_ ?h5a133_ ?h6a133_ (by assumption) ?h8a133_
  case hia133_ => (simp only [List.getElem?_toArray, List.getElem?_cons_succ, List.getElem?_cons_zero]; rfl)
  case h3a133_ => kernel_rfl
  case h4a133_ => kernel_rfl
  case h6a133_ => (refine Or.inl ⟨by rfl, ?_⟩; intro w hSw; (try dsimp only at hSw); (go_simp <;> with_reducible rfl))
  case h5a133_ => exact fun _ _ _ h => h
  try simp only [Act.put, List.setIfInBounds_toArray, List.set_cons_zero, List.set_cons_succ]
  refine wpAnyH_ready (rs := [7, 11]) (by kernel_rfl) (by simp) (AllReadyH.cons (o := ?ooa134_q0) ?hia134_q0 (fun K hK => ?hka134_q0) (AllReadyH.cons (o := ?ooa134_q1) ?hia134_q1 (fun K hK => ?hka134_q1) AllReadyH.nil))
  case hia134_q0 => (simp only [List.getElem?_toArray, List.getElem?_cons_succ, List.getElem?_cons_zero]; rfl)
  case hia134_q1 => (simp only [List.getElem?_toArray, List.getElem?_cons_succ, List.getElem?_cons_zero]; rfl)
  case hka134_q0 =>
    (rw [if_pos (by rfl)]; go_simp; refine (HC3.out _ (ints_below I1 hHeld.2) (ints_below I2 hHeld.2)).mono ?_; rintro e qQ ⟨vQ, rfl, Q, hb⟩; go_wp2_with fail; refine hK.out _ _ (HMK126.out _ (bel_tr hHeld.2 hb)) (fun hHeld => ?_); clear hK K)
    try simp only [Act.put, List.setIfInBounds_toArray, List.set_cons_zero, List.set_cons_succ]
    refine wpAnyH_take (i := 8) (oi := ?ooa135_) (v := ?vva135_) ?hia135_ (by kernel_rfl) ?h3a135_ ?h4a135_ ?h5a135_ ?h6a135_ (by assumption) ?h8a135_
    case hia135_ => (simp only [List.getElem?_toArray, List.getElem?_cons_succ, List.getElem?_cons_zero]; rfl)
    case h3a135_ => kernel_rfl
    case h4a135_ => kernel_rfl
    case h6a135_ => (refine Or.inl ⟨by rfl, ?_⟩; intro w hSw; (try dsimp only at hSw); (go_simp <;> with_reducible rfl))
    case h5a135_ => exact fun _ _ _ h => h
    try simp only [Act.put, List.setIfInBounds_toArray, List.set_cons_zero, List.set_cons_succ]
    refine wpAnyH_take (i := 9) (oi := ?ooa136_) (v := ?vva136_) ?hia136_ (by kernel_rfl) ?h3a136_ ?h4a136_ ?h5a136_ ?h6a136_ (by assumption) ?h8a136_
    case hia136_ => (simp only [List.getElem?_toArray, List.getElem?_cons_succ, List.getElem?_cons_zero]; rfl)
    case h3a136_ => kernel_rfl
    case h4a136_ => kernel_rfl
    case h6a136_ => (refine Or.inl ⟨by rfl, ?_⟩; intro w hSw; (try dsimp only at hSw); (go_simp <;> with_reducible rfl))
    case h5a136_ => exact fun _ _ _ h => h
    try simp only [Act.put, List.setIfInBounds_toArray, List.set_cons_zero, List.set_cons_succ]
    refine wpAnyH_take (i := 10) (oi := ?ooa137_) (v := ?vva137_) ?hia137_ (by kernel_rfl) ?h3a137_ ?h4a137_ ?h5a137_ ?h6a137_ (by assumption) ?h8a137_
    case hia137_ => (simp only [List.getElem?_toArray, List.getElem?_cons_succ, List.getElem?_cons_zero]; rfl)
    case h3a137_ => kernel_rfl
    case h4a137_ => kernel_rfl
    case h6a137_ => (refine Or.inl ⟨by rfl, ?_⟩; intro w hSw; (try dsimp only at hSw); (go_simp <;> with_reducible rfl))
    case h5a137_ => exact fun _ _ _ h => h
    try simp only [Act.put, List.setIfInBounds_toArray, List.set_cons_zero, List.set_cons_succ]
    refine wpAnyH_ready (rs := [11]) (by kernel_rfl) (by simp) (AllReadyH.cons (o := ?ooa138_q0) ?hia138_q0 (fun K hK => ?hka138_q0) AllReadyH.nil)
    case hia138_q0 => (simp only [List.getElem?_toArray, List.getElem?_cons_succ, List.getElem?_cons_zero]; rfl)
    case hka138_q0 =>
      (rw [if_pos (by rfl)]; go_simp; have ne_Q_11 : (vQ).ownBlock ≠ some qQ.heap.size := fun c => Nat.lt_irrefl _ (World.ownsRow.lt Q _ c).2; replace Q := Q.of_block ((Below.refl _ qQ).alloc (Nat.le_refl _) (.cells #[.int .i64 0, .int .i64 0] 24)); have F11 := Lib.hid (Blk.new qQ 24 #[.int .i64 0, .int .i64 0]); have EE := HMK126.out _ (hHeld.2.alloc hHeld.2.size (.cells #[.int .i64 0, .int .i64 0] 24)); have L11 := hHeld.2.size; generalize qQ.alloc (.cells #[.int .i64 0, .int .i64 0] 24) = W11a at F11 EE Q ⊢; generalize qQ.heap.size = g11 at F11 L11 ne_Q_11 ⊢; refine hK.out _ _ (EE) (fun hHeld => ?_); clear hK K)
      try simp only [Act.put, List.setIfInBounds_toArray, List.set_cons_zero, List.set_cons_succ]
      refine wpAnyH_take (i := 12) (oi := ?ooa139_) (v := ?vva139_) ?hia139_ (by kernel_rfl) ?h3a139_ ?h4a139_ ?h5a139_ ?h6a139_ (by assumption) ?h8a139_
      case hia139_ => (simp only [List.getElem?_toArray, List.getElem?_cons_succ, List.getElem?_cons_zero]; rfl)
      case h3a139_ => kernel_rfl
      case h4a139_ => kernel_rfl
      case h6a139_ => (refine Or.inl ⟨by rfl, ?_⟩; intro w hSw; (try dsimp only at hSw); (go_simp <;> with_reducible rfl))
      case h5a139_ => exact fun _ _ _ h => h
      try simp only [Act.put, List.setIfInBounds_toArray, List.set_cons_zero, List.set_cons_succ]
      refine wpAnyH_ready (rs := [13]) (by kernel_rfl) (by simp) (AllReadyH.cons (o := ?ooa140_q0) ?hia140_q0 (fun K hK => ?hka140_q0) AllReadyH.nil)
      case hia140_q0 => (simp only [List.getElem?_toArray, List.getElem?_cons_succ, List.getElem?_cons_zero]; rfl)
      case hka140_q0 =>
        (rw [if_pos (by rfl)]; have fc0 := F11.out.cell 0; have ff0 := F11.out.frozen 0; have fc1 := F11.out.cell 1; have ff1 := F11.out.frozen 1; simp only [List.getElem?_toArray, List.getElem?_cons_zero, List.getElem?_cons_succ] at fc0 fc1; go_simp; replace Q := ((Q.far (g := g11) (j := 0) ne_Q_11 (.int .i64 r)).far (g := g11) (j := 1) ne_Q_11 (.int .i64 em)); have FF11 : Hid (Blk _ g11 24 #[.int .i64 r, .int .i64 em]) := Lib.hid (((F11.out).set_ 0 (.int .i64 r)).set_ 1 (.int .i64 em)); have EE := HMK126.out _ (((hHeld.2).setCell (p := ⟨g11, 0, none⟩) L11 (.int .i64 r)).setCell (p := ⟨g11, 1, none⟩) L11 (.int .i64 em)); generalize World.setCell (World.setCell (_) ⟨g11, 0, none⟩ (.int .i64 r)) ⟨g11, 1, none⟩ (.int .i64 em) = W11_140s at FF11 EE Q ⊢; clear fc0 ff0 fc1 ff1; replace F11 := FF11; clear FF11; refine hK.out _ _ (EE) (fun hHeld => ?_); clear hK K)
        try simp only [Act.put, List.setIfInBounds_toArray, List.set_cons_zero, List.set_cons_succ]
        refine wpAnyH_done (by kernel_rfl) ?_ _
        clear HMK126
        have C := hHeld.2
        have KM := F11.out
        have QA := Q
        clear hHeld Q F11 L11
        replace B := bel_tr B C
        replace I1 := ints_below I1 C
        replace I2 := ints_below I2 C
        replace K1 := K1.next C
        replace O := O.of_block C
        clear C
        generalize g11 = gm at *
        have UN := True.intro
        obtain ⟨f0K1, f1K1, f2K1, f3K1, f4K1⟩ := blk_two K1
        obtain ⟨f0KM, f1KM, f2KM, f3KM, f4KM⟩ := blk_two KM
        go_wp2_with fail
        clear f0K1 f1K1 f2K1 f3K1 f4K1 f0KM f1KM f2KM f3KM f4KM
        obtain ⟨f0K1, f1K1, f2K1, f3K1, f4K1⟩ := blk_two K1
        obtain ⟨f0KM, f1KM, f2KM, f3KM, f4KM⟩ := blk_two KM
        have HMK141 := Lib.hid (fun (W : World) (hW : Below W11_140s.heap.size W11_140s W) => (⟨⟨(hW.cell (p := ⟨gm, 0, none⟩) (f4KM)).trans f0KM, (hW.cell (p := ⟨gm, 1, none⟩) (f4KM)).trans f1KM⟩, hW⟩ : (W.cell? ⟨gm, 0, none⟩ = some (.int .i64 r) ∧ W.cell? ⟨gm, 1, none⟩ = some (.int .i64 em)) ∧ Below W11_140s.heap.size W11_140s W))
        refine wp_region_held_drew (S := (fun w' => (w'.cell? ⟨gm, 0, none⟩ = some (.int .i64 r) ∧ w'.cell? ⟨gm, 1, none⟩ = some (.int .i64 em)) ∧ Below W11_140s.heap.size W11_140s w')) (by kernel_rfl) ?_ (fun hHeld => ?_)
        · exact ⟨⟨f0KM, f1KM⟩, (Below.refl _ _).drew⟩
        refine wpAnyH_take (i := 0) (oi := ?ooa142_) (v := ?vva142_) ?hia142_ (by kernel_rfl) ?h3a142_ ?h4a142_ ?h5a142_ ?h6a142_ (by assumption) ?h8a142_
        case hia142_ => (simp only [List.getElem?_toArray, List.getElem?_cons_succ, List.getElem?_cons_zero]; rfl)
        case h3a142_ => kernel_rfl
        case h4a142_ => kernel_rfl
        case h6a142_ => (refine Or.inl ⟨by rfl, ?_⟩; intro w hSw; (try dsimp only at hSw); (go_simp <;> with_reducible rfl))
        case h5a142_ => exact fun _ _ _ h => h
        try simp only [Act.put, List.setIfInBounds_toArray, List.set_cons_zero, List.set_cons_succ]
        refine wpAnyH_take (i := 1) (oi := ?ooa143_) (v := ?vva143_) ?hia143_ (by kernel_rfl) ?h3a143_ ?h4a143_ ?h5a143_ ?h6a143_ (by assumption) ?h8a143_
        case hia143_ => (simp only [List.getElem?_toArray, List.getElem?_cons_succ, List.getElem?_cons_zero]; rfl)
        case h3a143_ => kernel_rfl
        case h4a143_ => kernel_rfl
        case h6a143_ => (refine Or.inl ⟨by rfl, ?_⟩; intro w hSw; (try dsimp only at hSw); (go_simp <;> with_reducible rfl))
        case h5a143_ => exact fun _ _ _ h => h
        try simp only [Act.put, List.setIfInBounds_toArray, List.set_cons_zero, List.set_cons_succ]
        refine wpAnyH_take (i := 2) (oi := ?ooa144_) (v := ?vva144_) ?hia144_ (by kernel_rfl) ?h3a144_ ?h4a144_ ?h5a144_ ?h6a144_ (by assumption) ?h8a144_
        case hia144_ => (simp only [List.getElem?_toArray, List.getElem?_cons_succ, List.getElem?_cons_zero]; rfl)
        case h3a144_ => kernel_rfl
        case h4a144_ => kernel_rfl
        case h6a144_ => (refine Or.inl ⟨by rfl, ?_⟩; intro w hSw; (try dsimp only at hSw); (go_simp <;> with_reducible rfl))
        case h5a144_ => exact fun _ _ _ h => h
        try simp only [Act.put, List.setIfInBounds_toArray, List.set_cons_zero, List.set_cons_succ]
        refine wpAnyH_take (i := 3) (oi := ?ooa145_) (v := ?vva145_) ?hia145_ (by kernel_rfl) ?h3a145_ ?h4a145_ ?h5a145_ ?h6a145_ (by assumption) ?h8a145_
        case hia145_ => (simp only [List.getElem?_toArray, List.getElem?_cons_succ, List.getElem?_cons_zero]; rfl)
        case h3a145_ => kernel_rfl
        case h4a145_ => kernel_rfl
        case h6a145_ => (refine Or.inl ⟨by rfl, ?_⟩; intro w hSw; (try dsimp only at hSw); (go_simp <;> with_reducible rfl))
        case h5a145_ => exact fun _ _ _ h => h
        try simp only [Act.put, List.setIfInBounds_toArray, List.set_cons_zero, List.set_cons_succ]
        refine wpAnyH_take (i := 4) (oi := ?ooa146_) (v := ?vva146_) ?hia146_ (by kernel_rfl) ?h3a146_ ?h4a146_ ?h5a146_ ?h6a146_ (by assumption) ?h8a146_
        case hia146_ => (simp only [List.getElem?_toArray, List.getElem?_cons_succ, List.getElem?_cons_zero]; rfl)
        case h3a146_ => kernel_rfl
        case h4a146_ => kernel_rfl
        case h6a146_ => (refine Or.inl ⟨by rfl, ?_⟩; intro w hSw; (try dsimp only at hSw); (go_simp <;> with_reducible rfl))
        case h5a146_ => exact fun _ _ _ h => h
        try simp only [Act.put, List.setIfInBounds_toArray, List.set_cons_zero, List.set_cons_succ]
        refine wpAnyH_take (i := 5) (oi := ?ooa147_) (v := ?vva147_) ?hia147_ (by kernel_rfl) ?h3a147_ ?h4a147_ ?h5a147_ ?h6a147_ (by assumption) ?h8a147_
        case hia147_ => (simp only [List.getElem?_toArray, List.getElem?_cons_succ, List.getElem?_cons_zero]; rfl)
        case h3a147_ => kernel_rfl
        case h4a147_ => kernel_rfl
        case h6a147_ => (refine Or.inl ⟨by rfl, ?_⟩; intro w hSw; (try dsimp only at hSw); (go_simp <;> with_reducible rfl))
        case h5a147_ => exact fun _ _ _ h => h
        try simp only [Act.put, List.setIfInBounds_toArray, List.set_cons_zero, List.set_cons_succ]
        refine wpAnyH_take (i := 6) (oi := ?ooa148_) (v := ?vva148_) ?hia148_ (by kernel_rfl) ?h3a148_ ?h4a148_ ?h5a148_ ?h6a148_ (by assumption) ?h8a148_
        case hia148_ => (simp only [List.getElem?_toArray, List.getElem?_cons_succ, List.getElem?_cons_zero]; rfl)
        case h3a148_ => kernel_rfl
        case h4a148_ => kernel_rfl
        case h6a148_ => (refine Or.inl ⟨by rfl, ?_⟩; intro w hSw; (try dsimp only at hSw); (go_simp <;> with_reducible rfl))
        case h5a148_ => exact fun _ _ _ h => h
        try simp only [Act.put, List.setIfInBounds_toArray, List.set_cons_zero, List.set_cons_succ]
        refine wpAnyH_ready (rs := [7, 11]) (by kernel_rfl) (by simp) (AllReadyH.cons (o := ?ooa149_q0) ?hia149_q0 (fun K hK => ?hka149_q0) (AllReadyH.cons (o := ?ooa149_q1) ?hia149_q1 (fun K hK => ?hka149_q1) AllReadyH.nil))
        case hia149_q0 => (simp only [List.getElem?_toArray, List.getElem?_cons_succ, List.getElem?_cons_zero]; rfl)
        case hia149_q1 => (simp only [List.getElem?_toArray, List.getElem?_cons_succ, List.getElem?_cons_zero]; rfl)
        case hka149_q0 =>
          (rw [if_pos (by rfl)]; go_simp; refine (HC4.out _ (ints_below I1 hHeld.2) (ints_below I2 hHeld.2)).mono ?_; rintro e qQB ⟨vQB, rfl, QB, hb⟩; go_wp2_with fail; refine hK.out _ _ (HMK141.out _ (bel_tr hHeld.2 hb)) (fun hHeld => ?_); clear hK K)
          try simp only [Act.put, List.setIfInBounds_toArray, List.set_cons_zero, List.set_cons_succ]
          refine wpAnyH_take (i := 8) (oi := ?ooa150_) (v := ?vva150_) ?hia150_ (by kernel_rfl) ?h3a150_ ?h4a150_ ?h5a150_ ?h6a150_ (by assumption) ?h8a150_
          case hia150_ => (simp only [List.getElem?_toArray, List.getElem?_cons_succ, List.getElem?_cons_zero]; rfl)
          case h3a150_ => kernel_rfl
          case h4a150_ => kernel_rfl
          case h6a150_ => (refine Or.inl ⟨by rfl, ?_⟩; intro w hSw; (try dsimp only at hSw); (go_simp <;> with_reducible rfl))
          case h5a150_ => exact fun _ _ _ h => h
          try simp only [Act.put, List.setIfInBounds_toArray, List.set_cons_zero, List.set_cons_succ]
          refine wpAnyH_take (i := 9) (oi := ?ooa151_) (v := ?vva151_) ?hia151_ (by kernel_rfl) ?h3a151_ ?h4a151_ ?h5a151_ ?h6a151_ (by assumption) ?h8a151_
          case hia151_ => (simp only [List.getElem?_toArray, List.getElem?_cons_succ, List.getElem?_cons_zero]; rfl)
          case h3a151_ => kernel_rfl
          case h4a151_ => kernel_rfl
          case h6a151_ => (refine Or.inl ⟨by rfl, ?_⟩; intro w hSw; (try dsimp only at hSw); (go_simp <;> with_reducible rfl))
          case h5a151_ => exact fun _ _ _ h => h
          try simp only [Act.put, List.setIfInBounds_toArray, List.set_cons_zero, List.set_cons_succ]
          refine wpAnyH_take (i := 10) (oi := ?ooa152_) (v := ?vva152_) ?hia152_ (by kernel_rfl) ?h3a152_ ?h4a152_ ?h5a152_ ?h6a152_ (by assumption) ?h8a152_
          case hia152_ => (simp only [List.getElem?_toArray, List.getElem?_cons_succ, List.getElem?_cons_zero]; rfl)
          case h3a152_ => kernel_rfl
          case h4a152_ => kernel_rfl
          case h6a152_ => (refine Or.inl ⟨by rfl, ?_⟩; intro w hSw; (try dsimp only at hSw); (go_simp <;> with_reducible rfl))
          case h5a152_ => exact fun _ _ _ h => h
          try simp only [Act.put, List.setIfInBounds_toArray, List.set_cons_zero, List.set_cons_succ]
          refine wpAnyH_ready (rs := [11]) (by kernel_rfl) (by simp) (AllReadyH.cons (o := ?ooa153_q0) ?hia153_q0 (fun K hK => ?hka153_q0) AllReadyH.nil)
          case hia153_q0 => (simp only [List.getElem?_toArray, List.getElem?_cons_succ, List.getElem?_cons_zero]; rfl)
          case hka153_q0 =>
            (rw [if_pos (by rfl)]; go_simp; have ne_QB_11 : (vQB).ownBlock ≠ some qQB.heap.size := fun c => Nat.lt_irrefl _ (World.ownsRow.lt QB _ c).2; replace QB := QB.of_block ((Below.refl _ qQB).alloc (Nat.le_refl _) (.cells #[.int .i64 0, .int .i64 0] 24)); have F11 := Lib.hid (Blk.new qQB 24 #[.int .i64 0, .int .i64 0]); have EE := HMK141.out _ (hHeld.2.alloc hHeld.2.size (.cells #[.int .i64 0, .int .i64 0] 24)); have L11 := hHeld.2.size; generalize qQB.alloc (.cells #[.int .i64 0, .int .i64 0] 24) = W11a at F11 EE QB ⊢; generalize qQB.heap.size = g11 at F11 L11 ne_QB_11 ⊢; refine hK.out _ _ (EE) (fun hHeld => ?_); clear hK K)
            try simp only [Act.put, List.setIfInBounds_toArray, List.set_cons_zero, List.set_cons_succ]
            refine wpAnyH_take (i := 12) (oi := ?ooa154_) (v := ?vva154_) ?hia154_ (by kernel_rfl) ?h3a154_ ?h4a154_ ?h5a154_ ?h6a154_ (by assumption) ?h8a154_
            case hia154_ => (simp only [List.getElem?_toArray, List.getElem?_cons_succ, List.getElem?_cons_zero]; rfl)
            case h3a154_ => kernel_rfl
            case h4a154_ => kernel_rfl
            case h6a154_ => (refine Or.inl ⟨by rfl, ?_⟩; intro w hSw; (try dsimp only at hSw); (go_simp <;> with_reducible rfl))
            case h5a154_ => exact fun _ _ _ h => h
            try simp only [Act.put, List.setIfInBounds_toArray, List.set_cons_zero, List.set_cons_succ]
            refine wpAnyH_ready (rs := [13]) (by kernel_rfl) (by simp) (AllReadyH.cons (o := ?ooa155_q0) ?hia155_q0 (fun K hK => ?hka155_q0) AllReadyH.nil)
            case hia155_q0 => (simp only [List.getElem?_toArray, List.getElem?_cons_succ, List.getElem?_cons_zero]; rfl)
            case hka155_q0 =>
              (rw [if_pos (by rfl)]; have fc0 := F11.out.cell 0; have ff0 := F11.out.frozen 0; have fc1 := F11.out.cell 1; have ff1 := F11.out.frozen 1; simp only [List.getElem?_toArray, List.getElem?_cons_zero, List.getElem?_cons_succ] at fc0 fc1; go_simp; replace QB := ((QB.far (g := g11) (j := 0) ne_QB_11 (.int .i64 r)).far (g := g11) (j := 1) ne_QB_11 (.int .i64 rh)); have FF11 : Hid (Blk _ g11 24 #[.int .i64 r, .int .i64 rh]) := Lib.hid (((F11.out).set_ 0 (.int .i64 r)).set_ 1 (.int .i64 rh)); have EE := HMK141.out _ (((hHeld.2).setCell (p := ⟨g11, 0, none⟩) L11 (.int .i64 r)).setCell (p := ⟨g11, 1, none⟩) L11 (.int .i64 rh)); generalize World.setCell (World.setCell (_) ⟨g11, 0, none⟩ (.int .i64 r)) ⟨g11, 1, none⟩ (.int .i64 rh) = W11_155s at FF11 EE QB ⊢; clear fc0 ff0 fc1 ff1; replace F11 := FF11; clear FF11; refine hK.out _ _ (EE) (fun hHeld => ?_); clear hK K)
              try simp only [Act.put, List.setIfInBounds_toArray, List.set_cons_zero, List.set_cons_succ]
              refine wpAnyH_done (by kernel_rfl) ?_ _
              clear HMK141
              have C := hHeld.2
              have KE := F11.out
              clear hHeld
              replace B := bel_tr B C
              replace I1 := ints_below I1 C
              replace I2 := ints_below I2 C
              replace K1 := K1.next C
              replace O := O.of_block C
              replace QA := QA.of_block C
              clear C
              obtain ⟨bA, cA, rfl, _⟩ := QA.ints
              obtain ⟨bB, cB, rfl, _⟩ := QB.ints
              obtain ⟨f0K1, f1K1, f2K1, f3K1, f4K1⟩ := blk_two K1
              obtain ⟨f0KE, f1KE, f2KE, f3KE, f4KE⟩ := blk_two KE
              go_wp2_with fail
              clear f0K1 f1K1 f2K1 f3K1 f4K1 f0KE f1KE f2KE f3KE f4KE
              refine (ljoin _ _ _ _ RA RB _ QA.at_ QB.at_ lA lB).mono ?_
              rintro e u21_ ⟨vJ, rfl, J, C⟩
              rw [HX1.out] at J
              obtain ⟨bJ, cJ, rfl, _⟩ := J.ints
              replace B := bel_tr B C
              replace I1 := ints_below I1 C
              replace I2 := ints_below I2 C
              replace K1 := K1.next C
              replace O := O.of_block C
              replace QA := QA.of_block C
              replace KE := KE.next C
              replace QB := QB.of_block C
              clear C
              obtain ⟨f0K1, f1K1, f2K1, f3K1, f4K1⟩ := blk_two K1
              obtain ⟨f0KE, f1KE, f2KE, f3KE, f4KE⟩ := blk_two KE
              go_wp2_with fail
              clear f0K1 f1K1 f2K1 f3K1 f4K1 f0KE f1KE f2KE f3KE f4KE
              refine (eqInts _ _ _ _ R _ J.at_ O.at_ nR).mono ?_
              rintro e u22_ ⟨rfl, C⟩
              replace B := bel_tr B C
              replace I1 := ints_below I1 C
              replace I2 := ints_below I2 C
              replace K1 := K1.next C
              replace O := O.of_block C
              replace QA := QA.of_block C
              replace KE := KE.next C
              replace QB := QB.of_block C
              clear C
              obtain ⟨f0K1, f1K1, f2K1, f3K1, f4K1⟩ := blk_two K1
              obtain ⟨f0KE, f1KE, f2KE, f3KE, f4KE⟩ := blk_two KE
              go_wp2_with fail
              clear f0K1 f1K1 f2K1 f3K1 f4K1 f0KE f1KE f2KE f3KE f4KE
              go_ret
              exact ⟨rfl, B⟩
        case hka149_q1 =>
          (rw [if_pos (by rfl)]; go_simp; have F11 : Hid (Blk (W11_140s.alloc (.cells #[.int .i64 0, .int .i64 0] 24)).drew W11_140s.heap.size 24 #[.int .i64 0, .int .i64 0]) := Blk.new W11_140s 24 #[.int .i64 0, .int .i64 0]; have EE := HMK141.out (W11_140s.alloc (.cells #[.int .i64 0, .int .i64 0] 24)).drew ((Below.refl _ W11_140s).alloc (Nat.le_refl _) (.cells #[.int .i64 0, .int .i64 0] 24)).drew; have L11 : W11_140s.heap.size ≤ W11_140s.heap.size := Nat.le_refl _; generalize (W11_140s.alloc (.cells #[.int .i64 0, .int .i64 0] 24)).drew = W11a at F11 EE ⊢; obtain ⟨g11, hgf⟩ : ∃ gf, gf = W11_140s.heap.size := ⟨_, rfl⟩; rw [← hgf] at F11 ⊢; replace L11 : W11_140s.heap.size ≤ g11 := (by omega); clear hgf; refine hK.out _ _ (EE) (fun hHeld => ?_); clear hK K)
          try simp only [Act.put, List.setIfInBounds_toArray, List.set_cons_zero, List.set_cons_succ]
          refine wpAnyH_ready (rs := [7]) (by kernel_rfl) (by simp) (AllReadyH.cons (o := ?ooa156_q0) ?hia156_q0 (fun K hK => ?hka156_q0) AllReadyH.nil)
          case hia156_q0 => (simp only [List.getElem?_toArray, List.getElem?_cons_succ, List.getElem?_cons_zero]; rfl)
          case hka156_q0 =>
            (rw [if_pos (by rfl)]; go_simp; have lt_F11_7 := F11.out.lt; refine (HC4.out _ (ints_below I1 hHeld.2) (ints_below I2 hHeld.2)).mono ?_; rintro e qQB ⟨vQB, rfl, QB, hb⟩; have ne_QB_11 : (vQB).ownBlock ≠ some g11 := fun c => (by have := QB.grow _ c; omega); replace F11 := Lib.hid (F11.out.next hb); go_wp2_with fail; refine hK.out _ _ (HMK141.out _ (bel_tr hHeld.2 hb)) (fun hHeld => ?_); clear hK K)
            try simp only [Act.put, List.setIfInBounds_toArray, List.set_cons_zero, List.set_cons_succ]
            refine wpAnyH_take (i := 8) (oi := ?ooa157_) (v := ?vva157_) ?hia157_ (by kernel_rfl) ?h3a157_ ?h4a157_ ?h5a157_ ?h6a157_ (by assumption) ?h8a157_
            case hia157_ => (simp only [List.getElem?_toArray, List.getElem?_cons_succ, List.getElem?_cons_zero]; rfl)
            case h3a157_ => kernel_rfl
            case h4a157_ => kernel_rfl
            case h6a157_ => (refine Or.inl ⟨by rfl, ?_⟩; intro w hSw; (try dsimp only at hSw); (go_simp <;> with_reducible rfl))
            case h5a157_ => exact fun _ _ _ h => h
            try simp only [Act.put, List.setIfInBounds_toArray, List.set_cons_zero, List.set_cons_succ]
            refine wpAnyH_take (i := 9) (oi := ?ooa158_) (v := ?vva158_) ?hia158_ (by kernel_rfl) ?h3a158_ ?h4a158_ ?h5a158_ ?h6a158_ (by assumption) ?h8a158_
            case hia158_ => (simp only [List.getElem?_toArray, List.getElem?_cons_succ, List.getElem?_cons_zero]; rfl)
            case h3a158_ => kernel_rfl
            case h4a158_ => kernel_rfl
            case h6a158_ => (refine Or.inl ⟨by rfl, ?_⟩; intro w hSw; (try dsimp only at hSw); (go_simp <;> with_reducible rfl))
            case h5a158_ => exact fun _ _ _ h => h
            try simp only [Act.put, List.setIfInBounds_toArray, List.set_cons_zero, List.set_cons_succ]
            refine wpAnyH_take (i := 10) (oi := ?ooa159_) (v := ?vva159_) ?hia159_ (by kernel_rfl) ?h3a159_ ?h4a159_ ?h5a159_ ?h6a159_ (by assumption) ?h8a159_
            case hia159_ => (simp only [List.getElem?_toArray, List.getElem?_cons_succ, List.getElem?_cons_zero]; rfl)
            case h3a159_ => kernel_rfl
            case h4a159_ => kernel_rfl
            case h6a159_ => (refine Or.inl ⟨by rfl, ?_⟩; intro w hSw; (try dsimp only at hSw); (go_simp <;> with_reducible rfl))
            case h5a159_ => exact fun _ _ _ h => h
            try simp only [Act.put, List.setIfInBounds_toArray, List.set_cons_zero, List.set_cons_succ]
            refine wpAnyH_take (i := 12) (oi := ?ooa160_) (v := ?vva160_) ?hia160_ (by kernel_rfl) ?h3a160_ ?h4a160_ ?h5a160_ ?h6a160_ (by assumption) ?h8a160_
            case hia160_ => (simp only [List.getElem?_toArray, List.getElem?_cons_succ, List.getElem?_cons_zero]; rfl)
            case h3a160_ => kernel_rfl
            case h4a160_ => kernel_rfl
            case h6a160_ => (refine Or.inl ⟨by rfl, ?_⟩; intro w hSw; (try dsimp only at hSw); (go_simp <;> with_reducible rfl))
            case h5a160_ => exact fun _ _ _ h => h
            try simp only [Act.put, List.setIfInBounds_toArray, List.set_cons_zero, List.set_cons_succ]
            refine wpAnyH_ready (rs := [13]) (by kernel_rfl) (by simp) (AllReadyH.cons (o := ?ooa161_q0) ?hia161_q0 (fun K hK => ?hka161_q0) AllReadyH.nil)
            case hia161_q0 => (simp only [List.getElem?_toArray, List.getElem?_cons_succ, List.getElem?_cons_zero]; rfl)
            case hka161_q0 =>
              (rw [if_pos (by rfl)]; have fc0 := F11.out.cell 0; have ff0 := F11.out.frozen 0; have fc1 := F11.out.cell 1; have ff1 := F11.out.frozen 1; simp only [List.getElem?_toArray, List.getElem?_cons_zero, List.getElem?_cons_succ] at fc0 fc1; go_simp; replace QB := ((QB.far (g := g11) (j := 0) ne_QB_11 (.int .i64 r)).far (g := g11) (j := 1) ne_QB_11 (.int .i64 rh)); have FF11 : Hid (Blk _ g11 24 #[.int .i64 r, .int .i64 rh]) := Lib.hid (((F11.out).set_ 0 (.int .i64 r)).set_ 1 (.int .i64 rh)); have EE := HMK141.out _ (((hHeld.2).setCell (p := ⟨g11, 0, none⟩) L11 (.int .i64 r)).setCell (p := ⟨g11, 1, none⟩) L11 (.int .i64 rh)); generalize World.setCell (World.setCell (_) ⟨g11, 0, none⟩ (.int .i64 r)) ⟨g11, 1, none⟩ (.int .i64 rh) = W11_161s at FF11 EE QB ⊢; clear fc0 ff0 fc1 ff1; replace F11 := FF11; clear FF11; refine hK.out _ _ (EE) (fun hHeld => ?_); clear hK K)
              try simp only [Act.put, List.setIfInBounds_toArray, List.set_cons_zero, List.set_cons_succ]
              refine wpAnyH_done (by kernel_rfl) ?_ _
              clear HMK141
              have C := hHeld.2
              have KE := F11.out
              clear hHeld
              replace B := bel_tr B C
              replace I1 := ints_below I1 C
              replace I2 := ints_below I2 C
              replace K1 := K1.next C
              replace O := O.of_block C
              replace QA := QA.of_block C
              clear C
              obtain ⟨bA, cA, rfl, _⟩ := QA.ints
              obtain ⟨bB, cB, rfl, _⟩ := QB.ints
              obtain ⟨f0K1, f1K1, f2K1, f3K1, f4K1⟩ := blk_two K1
              obtain ⟨f0KE, f1KE, f2KE, f3KE, f4KE⟩ := blk_two KE
              go_wp2_with fail
              clear f0K1 f1K1 f2K1 f3K1 f4K1 f0KE f1KE f2KE f3KE f4KE
              refine (ljoin _ _ _ _ RA RB _ QA.at_ QB.at_ lA lB).mono ?_
              rintro e u21_ ⟨vJ, rfl, J, C⟩
              rw [HX1.out] at J
              obtain ⟨bJ, cJ, rfl, _⟩ := J.ints
              replace B := bel_tr B C
              replace I1 := ints_below I1 C
              replace I2 := ints_below I2 C
              replace K1 := K1.next C
              replace O := O.of_block C
              replace QA := QA.of_block C
              replace KE := KE.next C
              replace QB := QB.of_block C
              clear C
              obtain ⟨f0K1, f1K1, f2K1, f3K1, f4K1⟩ := blk_two K1
              obtain ⟨f0KE, f1KE, f2KE, f3KE, f4KE⟩ := blk_two KE
              go_wp2_with fail
              clear f0K1 f1K1 f2K1 f3K1 f4K1 f0KE f1KE f2KE f3KE f4KE
              refine (eqInts _ _ _ _ R _ J.at_ O.at_ nR).mono ?_
              rintro e u22_ ⟨rfl, C⟩
              replace B := bel_tr B C
              replace I1 := ints_below I1 C
              replace I2 := ints_below I2 C
              replace K1 := K1.next C
              replace O := O.of_block C
              replace QA := QA.of_block C
              replace KE := KE.next C
              replace QB := QB.of_block C
              clear C
              obtain ⟨f0K1, f1K1, f2K1, f3K1, f4K1⟩ := blk_two K1
              obtain ⟨f0KE, f1KE, f2KE, f3KE, f4KE⟩ := blk_two KE
              go_wp2_with fail
              clear f0K1 f1K1 f2K1 f3K1 f4K1 f0KE f1KE f2KE f3KE f4KE
              go_ret
              exact ⟨rfl, B⟩
  case hka134_q1 =>
    (rw [if_pos (by rfl)]; go_simp; have F11 : Hid (Blk (u4_.alloc (.cells #[.int .i64 0, .int .i64 0] 24)).drew u4_.heap.size 24 #[.int .i64 0, .int .i64 0]) := Blk.new u4_ 24 #[.int .i64 0, .int .i64 0]; have EE := HMK126.out (u4_.alloc (.cells #[.int .i64 0, .int .i64 0] 24)).drew ((Below.refl _ u4_).alloc (Nat.le_refl _) (.cells #[.int .i64 0, .int .i64 0] 24)).drew; have L11 : u4_.heap.size ≤ u4_.heap.size := Nat.le_refl _; generalize (u4_.alloc (.cells #[.int .i64 0, .int .i64 0] 24)).drew = W11a at F11 EE ⊢; obtain ⟨g11, hgf⟩ : ∃ gf, gf = u4_.heap.size := ⟨_, rfl⟩; rw [← hgf] at F11 ⊢; replace L11 : u4_.heap.size ≤ g11 := (by omega); clear hgf; refine hK.out _ _ (EE) (fun hHeld => ?_); clear hK K)
    try simp only [Act.put, List.setIfInBounds_toArray, List.set_cons_zero, List.set_cons_succ]
    refine wpAnyH_ready (rs := [7]) (by kernel_rfl) (by simp) (AllReadyH.cons (o := ?ooa162_q0) ?hia162_q0 (fun K hK => ?hka162_q0) AllReadyH.nil)
    case hia162_q0 => (simp only [List.getElem?_toArray, List.getElem?_cons_succ, List.getElem?_cons_zero]; rfl)
    case hka162_q0 =>
      (rw [if_pos (by rfl)]; go_simp; have lt_F11_7 := F11.out.lt; refine (HC3.out _ (ints_below I1 hHeld.2) (ints_below I2 hHeld.2)).mono ?_; rintro e qQ ⟨vQ, rfl, Q, hb⟩; have ne_Q_11 : (vQ).ownBlock ≠ some g11 := fun c => (by have := Q.grow _ c; omega); replace F11 := Lib.hid (F11.out.next hb); go_wp2_with fail; refine hK.out _ _ (HMK126.out _ (bel_tr hHeld.2 hb)) (fun hHeld => ?_); clear hK K)
      try simp only [Act.put, List.setIfInBounds_toArray, List.set_cons_zero, List.set_cons_succ]
      refine wpAnyH_take (i := 8) (oi := ?ooa163_) (v := ?vva163_) ?hia163_ (by kernel_rfl) ?h3a163_ ?h4a163_ ?h5a163_ ?h6a163_ (by assumption) ?h8a163_
      case hia163_ => (simp only [List.getElem?_toArray, List.getElem?_cons_succ, List.getElem?_cons_zero]; rfl)
      case h3a163_ => kernel_rfl
      case h4a163_ => kernel_rfl
      case h6a163_ => (refine Or.inl ⟨by rfl, ?_⟩; intro w hSw; (try dsimp only at hSw); (go_simp <;> with_reducible rfl))
      case h5a163_ => exact fun _ _ _ h => h
      try simp only [Act.put, List.setIfInBounds_toArray, List.set_cons_zero, List.set_cons_succ]
      refine wpAnyH_take (i := 9) (oi := ?ooa164_) (v := ?vva164_) ?hia164_ (by kernel_rfl) ?h3a164_ ?h4a164_ ?h5a164_ ?h6a164_ (by assumption) ?h8a164_
      case hia164_ => (simp only [List.getElem?_toArray, List.getElem?_cons_succ, List.getElem?_cons_zero]; rfl)
      case h3a164_ => kernel_rfl
      case h4a164_ => kernel_rfl
      case h6a164_ => (refine Or.inl ⟨by rfl, ?_⟩; intro w hSw; (try dsimp only at hSw); (go_simp <;> with_reducible rfl))
      case h5a164_ => exact fun _ _ _ h => h
      try simp only [Act.put, List.setIfInBounds_toArray, List.set_cons_zero, List.set_cons_succ]
      refine wpAnyH_take (i := 10) (oi := ?ooa165_) (v := ?vva165_) ?hia165_ (by kernel_rfl) ?h3a165_ ?h4a165_ ?h5a165_ ?h6a165_ (by assumption) ?h8a165_
      case hia165_ => (simp only [List.getElem?_toArray, List.getElem?_cons_succ, List.getElem?_cons_zero]; rfl)
      case h3a165_ => kernel_rfl
      case h4a165_ => kernel_rfl
      case h6a165_ => (refine Or.inl ⟨by rfl, ?_⟩; intro w hSw; (try dsimp only at hSw); (go_simp <;> with_reducible rfl))
      case h5a165_ => exact fun _ _ _ h => h
      try simp only [Act.put, List.setIfInBounds_toArray, List.set_cons_zero, List.set_cons_succ]
      refine wpAnyH_take (i := 12) (oi := ?ooa166_) (v := ?vva166_) ?hia166_ (by kernel_rfl) ?h3a166_ ?h4a166_ ?h5a166_ ?h6a166_ (by assumption) ?h8a166_
      case hia166_ => (simp only [List.getElem?_toArray, List.getElem?_cons_succ, List.getElem?_cons_zero]; rfl)
      case h3a166_ => kernel_rfl
      case h4a166_ => kernel_rfl
      case h6a166_ => (refine Or.inl ⟨by rfl, ?_⟩; intro w hSw; (try dsimp only at hSw); (go_simp <;> with_reducible rfl))
      case h5a166_ => exact fun _ _ _ h => h
      try simp only [Act.put, List.setIfInBounds_toArray, List.set_cons_zero, List.set_cons_succ]
      refine wpAnyH_ready (rs := [13]) (by kernel_rfl) (by simp) (AllReadyH.cons (o := ?ooa167_q0) ?hia167_q0 (fun K hK => ?hka167_q0) AllReadyH.nil)
      case hia167_q0 => (simp only [List.getElem?_toArray, List.getElem?_cons_succ, List.getElem?_cons_zero]; rfl)
      case hka167_q0 =>
        (rw [if_pos (by rfl)]; have fc0 := F11.out.cell 0; have ff0 := F11.out.frozen 0; have fc1 := F11.out.cell 1; have ff1 := F11.out.frozen 1; simp only [List.getElem?_toArray, List.getElem?_cons_zero, List.getElem?_cons_succ] at fc0 fc1; go_simp; replace Q := ((Q.far (g := g11) (j := 0) ne_Q_11 (.int .i64 r)).far (g := g11) (j := 1) ne_Q_11 (.int .i64 em)); have FF11 : Hid (Blk _ g11 24 #[.int .i64 r, .int .i64 em]) := Lib.hid (((F11.out).set_ 0 (.int .i64 r)).set_ 1 (.int .i64 em)); have EE := HMK126.out _ (((hHeld.2).setCell (p := ⟨g11, 0, none⟩) L11 (.int .i64 r)).setCell (p := ⟨g11, 1, none⟩) L11 (.int .i64 em)); generalize World.setCell (World.setCell (_) ⟨g11, 0, none⟩ (.int .i64 r)) ⟨g11, 1, none⟩ (.int .i64 em) = W11_167s at FF11 EE Q ⊢; clear fc0 ff0 fc1 ff1; replace F11 := FF11; clear FF11; refine hK.out _ _ (EE) (fun hHeld => ?_); clear hK K)
        try simp only [Act.put, List.setIfInBounds_toArray, List.set_cons_zero, List.set_cons_succ]
        refine wpAnyH_done (by kernel_rfl) ?_ _
        clear HMK126
        have C := hHeld.2
        have KM := F11.out
        have QA := Q
        clear hHeld Q F11 L11
        replace B := bel_tr B C
        replace I1 := ints_below I1 C
        replace I2 := ints_below I2 C
        replace K1 := K1.next C
        replace O := O.of_block C
        clear C
        generalize g11 = gm at *
        have UN := True.intro
        obtain ⟨f0K1, f1K1, f2K1, f3K1, f4K1⟩ := blk_two K1
        obtain ⟨f0KM, f1KM, f2KM, f3KM, f4KM⟩ := blk_two KM
        go_wp2_with fail
        clear f0K1 f1K1 f2K1 f3K1 f4K1 f0KM f1KM f2KM f3KM f4KM
        obtain ⟨f0K1, f1K1, f2K1, f3K1, f4K1⟩ := blk_two K1
        obtain ⟨f0KM, f1KM, f2KM, f3KM, f4KM⟩ := blk_two KM
        have HMK168 := Lib.hid (fun (W : World) (hW : Below W11_167s.heap.size W11_167s W) => (⟨⟨(hW.cell (p := ⟨gm, 0, none⟩) (f4KM)).trans f0KM, (hW.cell (p := ⟨gm, 1, none⟩) (f4KM)).trans f1KM⟩, hW⟩ : (W.cell? ⟨gm, 0, none⟩ = some (.int .i64 r) ∧ W.cell? ⟨gm, 1, none⟩ = some (.int .i64 em)) ∧ Below W11_167s.heap.size W11_167s W))
        refine wp_region_held_drew (S := (fun w' => (w'.cell? ⟨gm, 0, none⟩ = some (.int .i64 r) ∧ w'.cell? ⟨gm, 1, none⟩ = some (.int .i64 em)) ∧ Below W11_167s.heap.size W11_167s w')) (by kernel_rfl) ?_ (fun hHeld => ?_)
        · exact ⟨⟨f0KM, f1KM⟩, (Below.refl _ _).drew⟩
        refine wpAnyH_take (i := 0) (oi := ?ooa169_) (v := ?vva169_) ?hia169_ (by kernel_rfl) ?h3a169_ ?h4a169_ ?h5a169_ ?h6a169_ (by assumption) ?h8a169_
        case hia169_ => (simp only [List.getElem?_toArray, List.getElem?_cons_succ, List.getElem?_cons_zero]; rfl)
        case h3a169_ => kernel_rfl
        case h4a169_ => kernel_rfl
        case h6a169_ => (refine Or.inl ⟨by rfl, ?_⟩; intro w hSw; (try dsimp only at hSw); (go_simp <;> with_reducible rfl))
        case h5a169_ => exact fun _ _ _ h => h
        try simp only [Act.put, List.setIfInBounds_toArray, List.set_cons_zero, List.set_cons_succ]
        refine wpAnyH_take (i := 1) (oi := ?ooa170_) (v := ?vva170_) ?hia170_ (by kernel_rfl) ?h3a170_ ?h4a170_ ?h5a170_ ?h6a170_ (by assumption) ?h8a170_
        case hia170_ => (simp only [List.getElem?_toArray, List.getElem?_cons_succ, List.getElem?_cons_zero]; rfl)
        case h3a170_ => kernel_rfl
        case h4a170_ => kernel_rfl
        case h6a170_ => (refine Or.inl ⟨by rfl, ?_⟩; intro w hSw; (try dsimp only at hSw); (go_simp <;> with_reducible rfl))
        case h5a170_ => exact fun _ _ _ h => h
        try simp only [Act.put, List.setIfInBounds_toArray, List.set_cons_zero, List.set_cons_succ]
        refine wpAnyH_take (i := 2) (oi := ?ooa171_) (v := ?vva171_) ?hia171_ (by kernel_rfl) ?h3a171_ ?h4a171_ ?h5a171_ ?h6a171_ (by assumption) ?h8a171_
        case hia171_ => (simp only [List.getElem?_toArray, List.getElem?_cons_succ, List.getElem?_cons_zero]; rfl)
        case h3a171_ => kernel_rfl
        case h4a171_ => kernel_rfl
        case h6a171_ => (refine Or.inl ⟨by rfl, ?_⟩; intro w hSw; (try dsimp only at hSw); (go_simp <;> with_reducible rfl))
        case h5a171_ => exact fun _ _ _ h => h
        try simp only [Act.put, List.setIfInBounds_toArray, List.set_cons_zero, List.set_cons_succ]
        refine wpAnyH_take (i := 3) (oi := ?ooa172_) (v := ?vva172_) ?hia172_ (by kernel_rfl) ?h3a172_ ?h4a172_ ?h5a172_ ?h6a172_ (by assumption) ?h8a172_
        case hia172_ => (simp only [List.getElem?_toArray, List.getElem?_cons_succ, List.getElem?_cons_zero]; rfl)
        case h3a172_ => kernel_rfl
        case h4a172_ => kernel_rfl
        case h6a172_ => (refine Or.inl ⟨by rfl, ?_⟩; intro w hSw; (try dsimp only at hSw); (go_simp <;> with_reducible rfl))
        case h5a172_ => exact fun _ _ _ h => h
        try simp only [Act.put, List.setIfInBounds_toArray, List.set_cons_zero, List.set_cons_succ]
        refine wpAnyH_take (i := 4) (oi := ?ooa173_) (v := ?vva173_) ?hia173_ (by kernel_rfl) ?h3a173_ ?h4a173_ ?h5a173_ ?h6a173_ (by assumption) ?h8a173_
        case hia173_ => (simp only [List.getElem?_toArray, List.getElem?_cons_succ, List.getElem?_cons_zero]; rfl)
        case h3a173_ => kernel_rfl
        case h4a173_ => kernel_rfl
        case h6a173_ => (refine Or.inl ⟨by rfl, ?_⟩; intro w hSw; (try dsimp only at hSw); (go_simp <;> with_reducible rfl))
        case h5a173_ => exact fun _ _ _ h => h
        try simp only [Act.put, List.setIfInBounds_toArray, List.set_cons_zero, List.set_cons_succ]
        refine wpAnyH_take (i := 5) (oi := ?ooa174_) (v := ?vva174_) ?hia174_ (by kernel_rfl) ?h3a174_ ?h4a174_ ?h5a174_ ?h6a174_ (by assumption) ?h8a174_
        case hia174_ => (simp only [List.getElem?_toArray, List.getElem?_cons_succ, List.getElem?_cons_zero]; rfl)
        case h3a174_ => kernel_rfl
        case h4a174_ => kernel_rfl
        case h6a174_ => (refine Or.inl ⟨by rfl, ?_⟩; intro w hSw; (try dsimp only at hSw); (go_simp <;> with_reducible rfl))
        case h5a174_ => exact fun _ _ _ h => h
        try simp only [Act.put, List.setIfInBounds_toArray, List.set_cons_zero, List.set_cons_succ]
        refine wpAnyH_take (i := 6) (oi := ?ooa175_) (v := ?vva175_) ?hia175_ (by kernel_rfl) ?h3a175_ ?h4a175_ ?h5a175_ ?h6a175_ (by assumption) ?h8a175_
        case hia175_ => (simp only [List.getElem?_toArray, List.getElem?_cons_succ, List.getElem?_cons_zero]; rfl)
        case h3a175_ => kernel_rfl
        case h4a175_ => kernel_rfl
        case h6a175_ => (refine Or.inl ⟨by rfl, ?_⟩; intro w hSw; (try dsimp only at hSw); (go_simp <;> with_reducible rfl))
        case h5a175_ => exact fun _ _ _ h => h
        try simp only [Act.put, List.setIfInBounds_toArray, List.set_cons_zero, List.set_cons_succ]
        refine wpAnyH_ready (rs := [7, 11]) (by kernel_rfl) (by simp) (AllReadyH.cons (o := ?ooa176_q0) ?hia176_q0 (fun K hK => ?hka176_q0) (AllReadyH.cons (o := ?ooa176_q1) ?hia176_q1 (fun K hK => ?hka176_q1) AllReadyH.nil))
        case hia176_q0 => (simp only [List.getElem?_toArray, List.getElem?_cons_succ, List.getElem?_cons_zero]; rfl)
        case hia176_q1 => (simp only [List.getElem?_toArray, List.getElem?_cons_succ, List.getElem?_cons_zero]; rfl)
        case hka176_q0 =>
          (rw [if_pos (by rfl)]; go_simp; refine (HC4.out _ (ints_below I1 hHeld.2) (ints_below I2 hHeld.2)).mono ?_; rintro e qQB ⟨vQB, rfl, QB, hb⟩; go_wp2_with fail; refine hK.out _ _ (HMK168.out _ (bel_tr hHeld.2 hb)) (fun hHeld => ?_); clear hK K)
          try simp only [Act.put, List.setIfInBounds_toArray, List.set_cons_zero, List.set_cons_succ]
          refine wpAnyH_take (i := 8) (oi := ?ooa177_) (v := ?vva177_) ?hia177_ (by kernel_rfl) ?h3a177_ ?h4a177_ ?h5a177_ ?h6a177_ (by assumption) ?h8a177_
          case hia177_ => (simp only [List.getElem?_toArray, List.getElem?_cons_succ, List.getElem?_cons_zero]; rfl)
          case h3a177_ => kernel_rfl
          case h4a177_ => kernel_rfl
          case h6a177_ => (refine Or.inl ⟨by rfl, ?_⟩; intro w hSw; (try dsimp only at hSw); (go_simp <;> with_reducible rfl))
          case h5a177_ => exact fun _ _ _ h => h
          try simp only [Act.put, List.setIfInBounds_toArray, List.set_cons_zero, List.set_cons_succ]
          refine wpAnyH_take (i := 9) (oi := ?ooa178_) (v := ?vva178_) ?hia178_ (by kernel_rfl) ?h3a178_ ?h4a178_ ?h5a178_ ?h6a178_ (by assumption) ?h8a178_
          case hia178_ => (simp only [List.getElem?_toArray, List.getElem?_cons_succ, List.getElem?_cons_zero]; rfl)
          case h3a178_ => kernel_rfl
          case h4a178_ => kernel_rfl
          case h6a178_ => (refine Or.inl ⟨by rfl, ?_⟩; intro w hSw; (try dsimp only at hSw); (go_simp <;> with_reducible rfl))
          case h5a178_ => exact fun _ _ _ h => h
          try simp only [Act.put, List.setIfInBounds_toArray, List.set_cons_zero, List.set_cons_succ]
          refine wpAnyH_take (i := 10) (oi := ?ooa179_) (v := ?vva179_) ?hia179_ (by kernel_rfl) ?h3a179_ ?h4a179_ ?h5a179_ ?h6a179_ (by assumption) ?h8a179_
          case hia179_ => (simp only [List.getElem?_toArray, List.getElem?_cons_succ, List.getElem?_cons_zero]; rfl)
          case h3a179_ => kernel_rfl
          case h4a179_ => kernel_rfl
          case h6a179_ => (refine Or.inl ⟨by rfl, ?_⟩; intro w hSw; (try dsimp only at hSw); (go_simp <;> with_reducible rfl))
          case h5a179_ => exact fun _ _ _ h => h
          try simp only [Act.put, List.setIfInBounds_toArray, List.set_cons_zero, List.set_cons_succ]
          refine wpAnyH_ready (rs := [11]) (by kernel_rfl) (by simp) (AllReadyH.cons (o := ?ooa180_q0) ?hia180_q0 (fun K hK => ?hka180_q0) AllReadyH.nil)
          case hia180_q0 => (simp only [List.getElem?_toArray, List.getElem?_cons_succ, List.getElem?_cons_zero]; rfl)
          case hka180_q0 =>
            (rw [if_pos (by rfl)]; go_simp; have ne_QB_11 : (vQB).ownBlock ≠ some qQB.heap.size := fun c => Nat.lt_irrefl _ (World.ownsRow.lt QB _ c).2; replace QB := QB.of_block ((Below.refl _ qQB).alloc (Nat.le_refl _) (.cells #[.int .i64 0, .int .i64 0] 24)); have F11 := Lib.hid (Blk.new qQB 24 #[.int .i64 0, .int .i64 0]); have EE := HMK168.out _ (hHeld.2.alloc hHeld.2.size (.cells #[.int .i64 0, .int .i64 0] 24)); have L11 := hHeld.2.size; generalize qQB.alloc (.cells #[.int .i64 0, .int .i64 0] 24) = W11a at F11 EE QB ⊢; generalize qQB.heap.size = g11 at F11 L11 ne_QB_11 ⊢; refine hK.out _ _ (EE) (fun hHeld => ?_); clear hK K)
            try simp only [Act.put, List.setIfInBounds_toArray, List.set_cons_zero, List.set_cons_succ]
            refine wpAnyH_take (i := 12) (oi := ?ooa181_) (v := ?vva181_) ?hia181_ (by kernel_rfl) ?h3a181_ ?h4a181_ ?h5a181_ ?h6a181_ (by assumption) ?h8a181_
            case hia181_ => (simp only [List.getElem?_toArray, List.getElem?_cons_succ, List.getElem?_cons_zero]; rfl)
            case h3a181_ => kernel_rfl
            case h4a181_ => kernel_rfl
            case h6a181_ => (refine Or.inl ⟨by rfl, ?_⟩; intro w hSw; (try dsimp only at hSw); (go_simp <;> with_reducible rfl))
            case h5a181_ => exact fun _ _ _ h => h
            try simp only [Act.put, List.setIfInBounds_toArray, List.set_cons_zero, List.set_cons_succ]
            refine wpAnyH_ready (rs := [13]) (by kernel_rfl) (by simp) (AllReadyH.cons (o := ?ooa182_q0) ?hia182_q0 (fun K hK => ?hka182_q0) AllReadyH.nil)
            case hia182_q0 => (simp only [List.getElem?_toArray, List.getElem?_cons_succ, List.getElem?_cons_zero]; rfl)
            case hka182_q0 =>
              (rw [if_pos (by rfl)]; have fc0 := F11.out.cell 0; have ff0 := F11.out.frozen 0; have fc1 := F11.out.cell 1; have ff1 := F11.out.frozen 1; simp only [List.getElem?_toArray, List.getElem?_cons_zero, List.getElem?_cons_succ] at fc0 fc1; go_simp; replace QB := ((QB.far (g := g11) (j := 0) ne_QB_11 (.int .i64 r)).far (g := g11) (j := 1) ne_QB_11 (.int .i64 rh)); have FF11 : Hid (Blk _ g11 24 #[.int .i64 r, .int .i64 rh]) := Lib.hid (((F11.out).set_ 0 (.int .i64 r)).set_ 1 (.int .i64 rh)); have EE := HMK168.out _ (((hHeld.2).setCell (p := ⟨g11, 0, none⟩) L11 (.int .i64 r)).setCell (p := ⟨g11, 1, none⟩) L11 (.int .i64 rh)); generalize World.setCell (World.setCell (_) ⟨g11, 0, none⟩ (.int .i64 r)) ⟨g11, 1, none⟩ (.int .i64 rh) = W11_182s at FF11 EE QB ⊢; clear fc0 ff0 fc1 ff1; replace F11 := FF11; clear FF11; refine hK.out _ _ (EE) (fun hHeld => ?_); clear hK K)
              try simp only [Act.put, List.setIfInBounds_toArray, List.set_cons_zero, List.set_cons_succ]
              refine wpAnyH_done (by kernel_rfl) ?_ _
              clear HMK168
              have C := hHeld.2
              have KE := F11.out
              clear hHeld
              replace B := bel_tr B C
              replace I1 := ints_below I1 C
              replace I2 := ints_below I2 C
              replace K1 := K1.next C
              replace O := O.of_block C
              replace QA := QA.of_block C
              clear C
              obtain ⟨bA, cA, rfl, _⟩ := QA.ints
              obtain ⟨bB, cB, rfl, _⟩ := QB.ints
              obtain ⟨f0K1, f1K1, f2K1, f3K1, f4K1⟩ := blk_two K1
              obtain ⟨f0KE, f1KE, f2KE, f3KE, f4KE⟩ := blk_two KE
              go_wp2_with fail
              clear f0K1 f1K1 f2K1 f3K1 f4K1 f0KE f1KE f2KE f3KE f4KE
              refine (ljoin _ _ _ _ RA RB _ QA.at_ QB.at_ lA lB).mono ?_
              rintro e u21_ ⟨vJ, rfl, J, C⟩
              rw [HX1.out] at J
              obtain ⟨bJ, cJ, rfl, _⟩ := J.ints
              replace B := bel_tr B C
              replace I1 := ints_below I1 C
              replace I2 := ints_below I2 C
              replace K1 := K1.next C
              replace O := O.of_block C
              replace QA := QA.of_block C
              replace KE := KE.next C
              replace QB := QB.of_block C
              clear C
              obtain ⟨f0K1, f1K1, f2K1, f3K1, f4K1⟩ := blk_two K1
              obtain ⟨f0KE, f1KE, f2KE, f3KE, f4KE⟩ := blk_two KE
              go_wp2_with fail
              clear f0K1 f1K1 f2K1 f3K1 f4K1 f0KE f1KE f2KE f3KE f4KE
              refine (eqInts _ _ _ _ R _ J.at_ O.at_ nR).mono ?_
              rintro e u22_ ⟨rfl, C⟩
              replace B := bel_tr B C
              replace I1 := ints_below I1 C
              replace I2 := ints_below I2 C
              replace K1 := K1.next C
              replace O := O.of_block C
              replace QA := QA.of_block C
              replace KE := KE.next C
              replace QB := QB.of_block C
              clear C
              obtain ⟨f0K1, f1K1, f2K1, f3K1, f4K1⟩ := blk_two K1
              obtain ⟨f0KE, f1KE, f2KE, f3KE, f4KE⟩ := blk_two KE
              go_wp2_with fail
              clear f0K1 f1K1 f2K1 f3K1 f4K1 f0KE f1KE f2KE f3KE f4KE
              go_ret
              exact ⟨rfl, B⟩
        case hka176_q1 =>
          (rw [if_pos (by rfl)]; go_simp; have F11 : Hid (Blk (W11_167s.alloc (.cells #[.int .i64 0, .int .i64 0] 24)).drew W11_167s.heap.size 24 #[.int .i64 0, .int .i64 0]) := Blk.new W11_167s 24 #[.int .i64 0, .int .i64 0]; have EE := HMK168.out (W11_167s.alloc (.cells #[.int .i64 0, .int .i64 0] 24)).drew ((Below.refl _ W11_167s).alloc (Nat.le_refl _) (.cells #[.int .i64 0, .int .i64 0] 24)).drew; have L11 : W11_167s.heap.size ≤ W11_167s.heap.size := Nat.le_refl _; generalize (W11_167s.alloc (.cells #[.int .i64 0, .int .i64 0] 24)).drew = W11a at F11 EE ⊢; obtain ⟨g11, hgf⟩ : ∃ gf, gf = W11_167s.heap.size := ⟨_, rfl⟩; rw [← hgf] at F11 ⊢; replace L11 : W11_167s.heap.size ≤ g11 := (by omega); clear hgf; refine hK.out _ _ (EE) (fun hHeld => ?_); clear hK K)
          try simp only [Act.put, List.setIfInBounds_toArray, List.set_cons_zero, List.set_cons_succ]
          refine wpAnyH_ready (rs := [7]) (by kernel_rfl) (by simp) (AllReadyH.cons (o := ?ooa183_q0) ?hia183_q0 (fun K hK => ?hka183_q0) AllReadyH.nil)
          case hia183_q0 => (simp only [List.getElem?_toArray, List.getElem?_cons_succ, List.getElem?_cons_zero]; rfl)
          case hka183_q0 =>
            (rw [if_pos (by rfl)]; go_simp; have lt_F11_7 := F11.out.lt; refine (HC4.out _ (ints_below I1 hHeld.2) (ints_below I2 hHeld.2)).mono ?_; rintro e qQB ⟨vQB, rfl, QB, hb⟩; have ne_QB_11 : (vQB).ownBlock ≠ some g11 := fun c => (by have := QB.grow _ c; omega); replace F11 := Lib.hid (F11.out.next hb); go_wp2_with fail; refine hK.out _ _ (HMK168.out _ (bel_tr hHeld.2 hb)) (fun hHeld => ?_); clear hK K)
            try simp only [Act.put, List.setIfInBounds_toArray, List.set_cons_zero, List.set_cons_succ]
            refine wpAnyH_take (i := 8) (oi := ?ooa184_) (v := ?vva184_) ?hia184_ (by kernel_rfl) ?h3a184_ ?h4a184_ ?h5a184_ ?h6a184_ (by assumption) ?h8a184_
            case hia184_ => (simp only [List.getElem?_toArray, List.getElem?_cons_succ, List.getElem?_cons_zero]; rfl)
            case h3a184_ => kernel_rfl
            case h4a184_ => kernel_rfl
            case h6a184_ => (refine Or.inl ⟨by rfl, ?_⟩; intro w hSw; (try dsimp only at hSw); (go_simp <;> with_reducible rfl))
            case h5a184_ => exact fun _ _ _ h => h
            try simp only [Act.put, List.setIfInBounds_toArray, List.set_cons_zero, List.set_cons_succ]
            refine wpAnyH_take (i := 9) (oi := ?ooa185_) (v := ?vva185_) ?hia185_ (by kernel_rfl) ?h3a185_ ?h4a185_ ?h5a185_ ?h6a185_ (by assumption) ?h8a185_
            case hia185_ => (simp only [List.getElem?_toArray, List.getElem?_cons_succ, List.getElem?_cons_zero]; rfl)
            case h3a185_ => kernel_rfl
            case h4a185_ => kernel_rfl
            case h6a185_ => (refine Or.inl ⟨by rfl, ?_⟩; intro w hSw; (try dsimp only at hSw); (go_simp <;> with_reducible rfl))
            case h5a185_ => exact fun _ _ _ h => h
            try simp only [Act.put, List.setIfInBounds_toArray, List.set_cons_zero, List.set_cons_succ]
            refine wpAnyH_take (i := 10) (oi := ?ooa186_) (v := ?vva186_) ?hia186_ (by kernel_rfl) ?h3a186_ ?h4a186_ ?h5a186_ ?h6a186_ (by assumption) ?h8a186_
            case hia186_ => (simp only [List.getElem?_toArray, List.getElem?_cons_succ, List.getElem?_cons_zero]; rfl)
            case h3a186_ => kernel_rfl
            case h4a186_ => kernel_rfl
            case h6a186_ => (refine Or.inl ⟨by rfl, ?_⟩; intro w hSw; (try dsimp only at hSw); (go_simp <;> with_reducible rfl))
            case h5a186_ => exact fun _ _ _ h => h
            try simp only [Act.put, List.setIfInBounds_toArray, List.set_cons_zero, List.set_cons_succ]
            refine wpAnyH_take (i := 12) (oi := ?ooa187_) (v := ?vva187_) ?hia187_ (by kernel_rfl) ?h3a187_ ?h4a187_ ?h5a187_ ?h6a187_ (by assumption) ?h8a187_
            case hia187_ => (simp only [List.getElem?_toArray, List.getElem?_cons_succ, List.getElem?_cons_zero]; rfl)
            case h3a187_ => kernel_rfl
            case h4a187_ => kernel_rfl
            case h6a187_ => (refine Or.inl ⟨by rfl, ?_⟩; intro w hSw; (try dsimp only at hSw); (go_simp <;> with_reducible rfl))
            case h5a187_ => exact fun _ _ _ h => h
            try simp only [Act.put, List.setIfInBounds_toArray, List.set_cons_zero, List.set_cons_succ]
            refine wpAnyH_ready (rs := [13]) (by kernel_rfl) (by simp) (AllReadyH.cons (o := ?ooa188_q0) ?hia188_q0 (fun K hK => ?hka188_q0) AllReadyH.nil)
            case hia188_q0 => (simp only [List.getElem?_toArray, List.getElem?_cons_succ, List.getElem?_cons_zero]; rfl)
            case hka188_q0 =>
              (rw [if_pos (by rfl)]; have fc0 := F11.out.cell 0; have ff0 := F11.out.frozen 0; have fc1 := F11.out.cell 1; have ff1 := F11.out.frozen 1; simp only [List.getElem?_toArray, List.getElem?_cons_zero, List.getElem?_cons_succ] at fc0 fc1; go_simp; replace QB := ((QB.far (g := g11) (j := 0) ne_QB_11 (.int .i64 r)).far (g := g11) (j := 1) ne_QB_11 (.int .i64 rh)); have FF11 : Hid (Blk _ g11 24 #[.int .i64 r, .int .i64 rh]) := Lib.hid (((F11.out).set_ 0 (.int .i64 r)).set_ 1 (.int .i64 rh)); have EE := HMK168.out _ (((hHeld.2).setCell (p := ⟨g11, 0, none⟩) L11 (.int .i64 r)).setCell (p := ⟨g11, 1, none⟩) L11 (.int .i64 rh)); generalize World.setCell (World.setCell (_) ⟨g11, 0, none⟩ (.int .i64 r)) ⟨g11, 1, none⟩ (.int .i64 rh) = W11_188s at FF11 EE QB ⊢; clear fc0 ff0 fc1 ff1; replace F11 := FF11; clear FF11; refine hK.out _ _ (EE) (fun hHeld => ?_); clear hK K)
              try simp only [Act.put, List.setIfInBounds_toArray, List.set_cons_zero, List.set_cons_succ]
              refine wpAnyH_done (by kernel_rfl) ?_ _
              clear HMK168
              have C := hHeld.2
              have KE := F11.out
              clear hHeld
              replace B := bel_tr B C
              replace I1 := ints_below I1 C
              replace I2 := ints_below I2 C
              replace K1 := K1.next C
              replace O := O.of_block C
              replace QA := QA.of_block C
              clear C
              obtain ⟨bA, cA, rfl, _⟩ := QA.ints
              obtain ⟨bB, cB, rfl, _⟩ := QB.ints
              obtain ⟨f0K1, f1K1, f2K1, f3K1, f4K1⟩ := blk_two K1
              obtain ⟨f0KE, f1KE, f2KE, f3KE, f4KE⟩ := blk_two KE
              go_wp2_with fail
              clear f0K1 f1K1 f2K1 f3K1 f4K1 f0KE f1KE f2KE f3KE f4KE
              refine (ljoin _ _ _ _ RA RB _ QA.at_ QB.at_ lA lB).mono ?_
              rintro e u21_ ⟨vJ, rfl, J, C⟩
              rw [HX1.out] at J
              obtain ⟨bJ, cJ, rfl, _⟩ := J.ints
              replace B := bel_tr B C
              replace I1 := ints_below I1 C
              replace I2 := ints_below I2 C
              replace K1 := K1.next C
              replace O := O.of_block C
              replace QA := QA.of_block C
              replace KE := KE.next C
              replace QB := QB.of_block C
              clear C
              obtain ⟨f0K1, f1K1, f2K1, f3K1, f4K1⟩ := blk_two K1
              obtain ⟨f0KE, f1KE, f2KE, f3KE, f4KE⟩ := blk_two KE
              go_wp2_with fail
              clear f0K1 f1K1 f2K1 f3K1 f4K1 f0KE f1KE f2KE f3KE f4KE
              refine (eqInts _ _ _ _ R _ J.at_ O.at_ nR).mono ?_
              rintro e u22_ ⟨rfl, C⟩
              replace B := bel_tr B C
              replace I1 := ints_below I1 C
              replace I2 := ints_below I2 C
              replace K1 := K1.next C
              replace O := O.of_block C
              replace QA := QA.of_block C
              replace KE := KE.next C
              replace QB := QB.of_block C
              clear C
              obtain ⟨f0K1, f1K1, f2K1, f3K1, f4K1⟩ := blk_two K1
              obtain ⟨f0KE, f1KE, f2KE, f3KE, f4KE⟩ := blk_two KE
              go_wp2_with fail
              clear f0K1 f1K1 f2K1 f3K1 f4K1 f0KE f1KE f2KE f3KE f4KE
              go_ret
              exact ⟨rfl, B⟩

set_option maxRecDepth 100000 in
theorem lifted (os : Os) (started : os.Started) (H : Type) (enc : TypeId × Value → H) :
    ReturnsInHanded {} Try.checked os 5 .any (Rows.fnRunBasinSpec.pre6 enc Try.prog Try.f5 Rows.fnRunBasinRow.domain false) (Rows.fnRunBasinSpec.post enc Try.prog Try.f5 false true false false) := by
  refine returnsInHanded_of_change (C := Try.checked) own started (by kernel_rfl) Try.func5
    (ChangeSpec.witness6 (enc := enc) (C := Try.checked) false ⟨#[], #[.slice none 0 0], []⟩ 8 (by kernel_rfl) (by kernel_rfl) (by kernel_rfl) (by kernel_rfl)) ?_
  intro W base args ds gs before hval0 hW hcnd _
  have hval : ∀ (j : Nat) t v, Try.f5.params[j]? = some t → args[j]? = some v → Value.okWide Try.prog W .any base t v := hval0
  have hW' := hW
  obtain ⟨p, q, hA0, hV, rfl, hfz, hnd⟩ := hW
  have hA : DataW.TrodAll enc Try.prog W 0 (fun _ => true) true Try.f5.params.toList args.toList ds p := hA0
  rw [Try.params5] at hA hval
  obtain ⟨v0, vs0, e0, es0, p0, q0, hargs, rfl, rfl, h0, r0⟩ := trodAll_cons hA
  obtain ⟨rfl, rfl, rfl⟩ := trodAll_nil r0
  obtain rfl : args = #[v0] := by cases args; simp_all
  obtain ⟨rfl, rfl⟩ := trodVars_none hV
  have k0 := h0
  have lt0 : ∀ x ∈ p0, x.block < W.heap.size := by obtain ⟨m, hm⟩ := k0; exact DataW.trod_lt m _ _ _ hm
  obtain ⟨a0, len0, cap0, rfl⟩ := okWide_slice Try.underlying22 (hval 0 22 v0 rfl rfl)
  obtain ⟨z0, w0⟩ : ∃ zs, IsRow .u8 W a0 len0 cap0 zs := by
    obtain ⟨fuel, hf⟩ := h0
    rcases open_ints Try.underlying22 Try.underlying5 (by kernel_rfl) hf with ⟨hcs, _⟩ | ⟨x, l, c, zs, hcs, _, hl, hm, hz, _, hcell, hwz⟩
    · simp [Value.cells] at hcs
      obtain ⟨rfl, rfl, rfl⟩ := hcs
      exact ⟨[], .inl ⟨rfl, rfl, rfl, rfl⟩⟩
    · simp [Value.cells] at hcs
      obtain ⟨rfl, rfl, rfl⟩ := hcs
      exact ⟨zs, .inr ⟨_, rfl, hl, hm, by simpa using hz, hcell, hwz⟩⟩
  clear hA0 hval0
  refine (walk a0 len0 cap0 z0 W w0).mono fun e W' ⟨he, bel⟩ => ?_
  subst he
  exact ⟨_, rfl, _, _, _, [], _, [], hW', trodAll_mk1 (shut_bool Try.underlying4 _), (trodAll_cons_mk (Below.trod laidOut (by kernel_rfl) (of_decide_eq_true (by kernel_rfl)) k0 bel lt0) trodAll_mk0), rfl, bel.frame _, fun h => by cases h⟩

theorem over : Rows.fnRunBasinRow.holds Try.pinned (OpenSpec.ofChange Rows.fnRunBasinSpec) :=
  OpenClaim.holds_of_wide 5 Try.f5 rfl rfl rfl rfl rfl rfl rfl ⟨rfl, rfl, rfl, rfl, rfl⟩ rfl rfl rfl rfl rfl (by kernel_rfl) Try.func5 (by kernel_rfl)
    (of_decide_eq_true (by kernel_rfl)) (by unfold Func.isWrapper; first | (rw [if_pos (by decide +kernel)]; kernel_rfl) | (rw [if_neg (by decide +kernel)]; exact ⟨rfl, rfl⟩))
    (fun os started H enc _ => lifted os started H enc)

end Go.Proofs.Ytfcgjiciobfncaa.fnRunBasin
namespace Go.Proofs.Ytfcgjiciobfncaa
/-- the statement -/
theorem fnRunBasin_holds : Rows.FnRunBasinSaid := fnRunBasin.over
end Go.Proofs.Ytfcgjiciobfncaa
