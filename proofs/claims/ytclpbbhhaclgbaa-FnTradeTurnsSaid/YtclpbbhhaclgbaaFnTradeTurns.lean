/- For every input the law answers true, and its argument reads afterwards as before: nobody loses by trading. No condition. -/
import Derived.Test.YtclpbbhhaclgbaaRows
import Derived.Test.YtclpbbhhaclgbaaDrawWf
import Derived.Test.YtclpbbhhaclgbaaTrdT
import Derived.Test.YtclpbbhhaclgbaaTrdL
import Derived.Test.YtclpbbhhaclgbaaRankI
import Derived.Test.YtclpbbhhaclgbaaLawIn
import Derived.Test.YtclpbbhhaclgbaaEqI
import Derived.WalkKit
import Derived.Deep.RegionHeld3
import Derived.Deep.DeepCutAuto
import Derived.Deep.QuietTactic
import Derived.BigQuiet
import Derived.ProofKit
import Derived.OpenShut
import Derived.ShutString
import Derived.ChangeOld
import Derived.Below
import Derived.Lib.SmallJoins
namespace Go.Proofs.Ytclpbbhhaclgbaa.fnTradeTurns
open Go.ChangeShapes Go.WideShapes Go.ChangeAt Go.RowKit Go.Joins
open Go.ChangeMaps (open_string shut_string)
set_option linter.unusedVariables false
set_option linter.unusedSimpArgs false

theorem own : ownKnob Try.prog.godebug = none := by kernel_rfl
theorem laidOut : laidOutB Try.prog = true := by kernel_rfl

set_option maxRecDepth 100000 in
set_option maxHeartbeats 8000000 in
theorem walk (a0 : Option Addr) (len0 cap0 : Nat) (z0 : List Int) (w : World) (w0 : IsRow .u8 w a0 len0 cap0 z0) :
    Calls Try.prog 6 #[.slice a0 len0 cap0] w fun e w' => e = .returned (.bool true) ∧ Below w.heap.size w w' := by
  by_cases big : (1048576 : Int) < (len0 : Int)
  · go_enter Try.func6, Try.ntmps6
    go_wp2
    go_ret
    exact ⟨rfl, Below.refl _ _⟩
  go_enter Try.func6, Try.ntmps6
  go_wp2_with fail
  refine (drawTradeTurns a0 len0 cap0 z0 _ w0).mono ?_
  rintro e u1 ⟨b, cp, rs, rfl, hl8, hlc, hi, B⟩
  clear w0 big
  have n1 : rs.length ≤ 1048576 := by omega
  have HI := Lib.hid hi
  have D := Below.refl u1.heap.size u1
  have nR : (tradeV rs).length ≤ 1048576 := by
    cases hv : wishB rs with
    | false => rw [tr_no hv]; simp
    | true => rw [(trade_ttc hv).1]; exact n1
  have CI : Hid (∀ W, Below u1.heap.size u1 W → Calls Try.prog 17 #[.slice b rs.length cp] W (OutI W (tradeV rs))) := fun W hW => iTrade b cp rs W (rows_below HI.out hW) n1
  have CS : Hid (∀ W, Below u1.heap.size u1 W → Calls Try.prog 16 #[.slice b rs.length cp] W (OutI W (tradeV rs))) := fun W hW => sTrade b cp rs W (rows_below HI.out hW) n1
  have CV : Hid (∀ W, Below u1.heap.size u1 W → Calls Try.prog 14 #[.slice b rs.length cp] W fun e w' => e = .returned (.bool (wishB rs)) ∧ W = w') := fun W hW => iVW b cp rs W (rows_below HI.out hW) n1
  have CR : Hid (∀ (i x : Int) W, Below u1.heap.size u1 W → Calls Try.prog 23 #[.slice b rs.length cp, .int .i64 i, .int .i64 x] W fun e w' => e = .returned (.int .i64 (rkV rs i x)) ∧ W = w') := fun i x W hW => iRank b cp rs i x W (rows_below HI.out hW) n1
  clear hi
  cases hv : wishB rs with
  | false =>
    rw [hv] at CV
    clear hv CR
    generalize tradeV rs = R at *
    go_wp2_with fail
    refine (CI.out _ D).mono ?_
    rintro e u2 ⟨v1, rfl, O1, C⟩
    obtain ⟨b1, c1, rfl, _⟩ := O1.ints
    replace B := bel_tr B C
    replace D := bel_tr D C
    clear C
    go_wp2_with fail
    refine (CS.out _ D).mono ?_
    rintro e u3 ⟨v2, rfl, O2, C⟩
    obtain ⟨b2, c2, rfl, _⟩ := O2.ints
    replace B := bel_tr B C
    replace D := bel_tr D C
    replace O1 := O1.of_block C
    clear C
    go_wp2_with fail
    refine (eqInts _ _ _ _ R _ O1.at_ O2.at_ nR).mono ?_
    rintro e u4 ⟨rfl, C⟩
    replace B := bel_tr B C
    replace D := bel_tr D C
    replace O1 := O1.of_block C
    clear C O2
    go_wp2_with fail
    refine (CV.out _ D).mono ?_
    rintro e w' ⟨rfl, rfl⟩
    go_wp2_with fail
    refine (CS.out _ D).mono ?_
    rintro e u5 ⟨v3, rfl, O3, C⟩
    obtain ⟨b3, c3, rfl, _⟩ := O3.ints
    replace B := bel_tr B C
    replace O1 := O1.of_block C
    clear C D
    go_wp2_with fail
    refine (eqInts _ _ _ _ R _ O1.at_ O3.at_ nR).mono ?_
    rintro e u6 ⟨rfl, C⟩
    replace B := bel_tr B C
    clear C
    go_wp2_with fail
    go_ret
    exact ⟨rfl, B⟩
  | true =>
    rw [hv] at CV
    obtain ⟨hl, hnat, st, T⟩ := trade_ttc hv
    have HLAW : Hid (∀ k, k < rs.length → ∃ y p q : Nat, (tradeV rs).getD k 0 = (y : Int) ∧ y < 9 ∧ p ≤ q ∧ q ≤ 1048576 ∧ rkV rs (k : Int) (y : Int) = (p : Int) ∧ rkV rs (k : Int) (k : Int) = (q : Int) ∧ (y : Int) ∉ (tradeV rs).take k) := fun k hk => by
      obtain ⟨y, hy⟩ := hnat k hk
      have e : ((tradeV rs).getD k 0).toNat = y := by rw [hy]; rfl
      have hlt := T.lt k hk
      have ho := ttc_own T hk
      simp only [e] at hlt ho
      obtain ⟨p1, p2, p3⟩ := rk_ex hv hk hlt
      obtain ⟨q1, q2, q3⟩ := rk_ex hv hk hk
      have hw8 := (wish_row hv hk).1
      refine ⟨y, rkN rs k y, rkN rs k k, hy, by omega, ho, by omega, ?_, ?_, fun hm => ?_⟩
      · rw [rk_yes hv hk]; exact plc_at p1 p3 p2
      · rw [rk_yes hv hk]; exact plc_at q1 q3 q2
      · obtain ⟨j, hj, ej⟩ := List.mem_iff_getElem.1 hm
        rw [List.length_take] at hj
        have hjk : j < k := by omega
        have hjl : j < (tradeV rs).length := by omega
        rw [List.getElem_take] at ej
        have ej2 : (tradeV rs).getD j 0 = (y : Int) := by rw [List.getD_eq_getElem?_getD, List.getElem?_eq_getElem hjl]; exact ej
        have := T.inj j k (by omega) hk (by show ((tradeV rs).getD j 0).toNat = ((tradeV rs).getD k 0).toNat; rw [ej2, hy])
        omega
    have HL := Lib.hid hl
    clear hv hnat T hl
    generalize tradeV rs = R at *
    go_wp2_with fail
    refine (CI.out _ D).mono ?_
    rintro e u2 ⟨v1, rfl, O1, C⟩
    obtain ⟨b1, c1, rfl, _⟩ := O1.ints
    replace B := bel_tr B C
    replace D := bel_tr D C
    clear C
    go_wp2_with fail
    refine (CS.out _ D).mono ?_
    rintro e u3 ⟨v2, rfl, O2, C⟩
    obtain ⟨b2, c2, rfl, _⟩ := O2.ints
    replace B := bel_tr B C
    replace D := bel_tr D C
    replace O1 := O1.of_block C
    clear C
    go_wp2_with fail
    refine (eqInts _ _ _ _ R _ O1.at_ O2.at_ nR).mono ?_
    rintro e u4 ⟨rfl, C⟩
    replace B := bel_tr B C
    replace D := bel_tr D C
    replace O1 := O1.of_block C
    clear C O2
    go_wp2_with fail
    refine (CV.out _ D).mono ?_
    rintro e w' ⟨rfl, rfl⟩
    clear CI CS CV
    go_wp2_with fail
    go_loopw [5] (fun i wr => ∃ k : Nat, k ≤ R.length ∧ i = .int .i64 k ∧ Below w.heap.size w wr ∧ Below u1.heap.size u1 wr ∧ OwnI wr u1.heap.size (.slice b1 R.length c1) R) (fun i _ => R.length - (intOf i).toNat)
    case atStart => exact ⟨0, Nat.zero_le _, rfl, B, D, O1⟩
    case round =>
      clear B D O1
      obtain ⟨k, hk, rfl, B, D, O1⟩ := hrel
      by_cases hlt : k < R.length
      · obtain ⟨g1, rfl, _⟩ := OwnI.form_ O1 (by omega)
        obtain ⟨y, p, q, hy, y9, hpq, hq, hr1, hr2, hni⟩ := HLAW.out k (by rw [← HL.out]; exact hlt)
        have x1 := O1.cell hlt
        rw [hy] at x1
        have lt1 := O1.blk.2
        have hcap : R.length ≤ c1 := by
          rcases O1.2 with ⟨e, _⟩ | ⟨g', cap', cur, e, _, _, hc, _⟩
          · cases e
          · injection e with e1 e2 e3
            subst e3
            first | exact hc | omega
        have hin : IsInts wr (some ⟨g1, 0, none⟩) (R.take k) := ints_takeC (fun i hi => by have := O1.cell hi; rw [Nat.zero_add]; exact this) k
        have hkl : (R.take k).length = k := by rw [List.length_take]; omega
        have CN : Hid (∀ W, Below wr.heap.size wr W → Calls Try.prog 26 #[.slice (some ⟨g1, 0, none⟩) k c1, .int .i64 (y : Int)] W fun e w' => e = .returned (.bool false) ∧ W = w') := fun W hW => by
          have := lisIn (some ⟨g1, 0, none⟩) c1 (R.take k) (y : Int) W (ints_below hin hW) (by omega)
          rw [hkl, decide_eq_false hni] at this; exact this
        have CR1 : Hid (∀ W, Below wr.heap.size wr W → Calls Try.prog 23 #[.slice b rs.length cp, .int .i64 (k : Int), .int .i64 (y : Int)] W fun e w' => e = .returned (.int .i64 (p : Int)) ∧ W = w') := fun W hW => by
          have := CR.out (k : Int) (y : Int) W (bel_tr D hW)
          rw [hr1] at this; exact this
        have CR2 : Hid (∀ W, Below wr.heap.size wr W → Calls Try.prog 23 #[.slice b rs.length cp, .int .i64 (k : Int), .int .i64 (k : Int)] W fun e w' => e = .returned (.int .i64 (q : Int)) ∧ W = w') := fun W hW => by
          have := CR.out (k : Int) (k : Int) W (bel_tr D hW)
          rw [hr2] at this; exact this
        have HO1 := Lib.hid O1
        have d1 : decide ((q : Int) < (p : Int)) = false := decide_eq_false (by omega)
        have d2 : decide (q < p) = false := decide_eq_false (by omega)
        have k0 : (0 : Int) ≤ (k : Int) := by omega
        have k1 : (k : Int) < (R.length : Int) := by omega
        have k2 : (k : Int) ≤ (c1 : Int) := by omega
        clear O1 hy hr1 hr2 hni hin hkl
        go_wp2_with fail
        have HMK1 := Lib.hid (fun (W : World) (hW : Below wr.heap.size wr W) => (⟨(hW.cell (p := ⟨g1, k, none⟩) (lt1)).trans x1, hW⟩ : (W.cell? ⟨g1, k, none⟩ = some (.int .i64 (y : Int))) ∧ Below wr.heap.size wr W))
        refine wp_region_held_drew (S := (fun w' => (w'.cell? ⟨g1, k, none⟩ = some (.int .i64 (y : Int))) ∧ Below wr.heap.size wr w')) (by kernel_rfl) ?_ (fun hHeld => ?_)
        · exact ⟨x1, (Below.refl _ _).drew⟩
        refine wpAnyH_take (i := 0) (oi := ?ooa2_) (v := ?vva2_) ?hia2_ (by kernel_rfl) ?h3a2_ ?h4a2_ ?h5a2_ ?h6a2_ (by assumption) ?h8a2_
        case hia2_ => (simp only [List.getElem?_toArray, List.getElem?_cons_succ, List.getElem?_cons_zero]; rfl)
        case h3a2_ => kernel_rfl
        case h4a2_ => kernel_rfl
        case h6a2_ => (refine Or.inl ⟨by rfl, ?_⟩; intro w hSw; (try dsimp only at hSw); (go_simp <;> with_reducible rfl))
        case h5a2_ => exact fun _ _ _ h => h
        try simp only [Act.put, List.setIfInBounds_toArray, List.set_cons_zero, List.set_cons_succ]
        refine wpAnyH_take (i := 1) (oi := ?ooa3_) (v := ?vva3_) ?hia3_ (by kernel_rfl) ?h3a3_ ?h4a3_ ?h5a3_ ?h6a3_ (by assumption) ?h8a3_
        case hia3_ => (simp only [List.getElem?_toArray, List.getElem?_cons_succ, List.getElem?_cons_zero]; rfl)
        case h3a3_ => kernel_rfl
        case h4a3_ => kernel_rfl
        case h6a3_ => (refine Or.inl ⟨by rfl, ?_⟩; intro w hSw; (try dsimp only at hSw); (go_simp <;> with_reducible rfl))
        case h5a3_ => exact fun _ _ _ h => h
        try simp only [Act.put, List.setIfInBounds_toArray, List.set_cons_zero, List.set_cons_succ]
        refine wpAnyH_take (i := 2) (oi := ?ooa4_) (v := ?vva4_) ?hia4_ (by kernel_rfl) ?h3a4_ ?h4a4_ ?h5a4_ ?h6a4_ (by assumption) ?h8a4_
        case hia4_ => (simp only [List.getElem?_toArray, List.getElem?_cons_succ, List.getElem?_cons_zero]; rfl)
        case h3a4_ => kernel_rfl
        case h4a4_ => kernel_rfl
        case h6a4_ => (refine Or.inl ⟨by rfl, ?_⟩; intro w hSw; (try dsimp only at hSw); (go_simp <;> with_reducible rfl))
        case h5a4_ => exact fun _ _ _ h => h
        try simp only [Act.put, List.setIfInBounds_toArray, List.set_cons_zero, List.set_cons_succ]
        refine wpAnyH_take (i := 3) (oi := ?ooa5_) (v := ?vva5_) ?hia5_ (by kernel_rfl) ?h3a5_ ?h4a5_ ?h5a5_ ?h6a5_ (by assumption) ?h8a5_
        case hia5_ => (simp only [List.getElem?_toArray, List.getElem?_cons_succ, List.getElem?_cons_zero]; rfl)
        case h3a5_ => kernel_rfl
        case h4a5_ => kernel_rfl
        case h6a5_ => (refine Or.inl ⟨by rfl, ?_⟩; intro w hSw; (try dsimp only at hSw); (go_simp <;> with_reducible rfl))
        case h5a5_ => exact fun _ _ _ h => h
        try simp only [Act.put, List.setIfInBounds_toArray, List.set_cons_zero, List.set_cons_succ]
        refine wpAnyH_take (i := 4) (oi := ?ooa6_) (v := ?vva6_) ?hia6_ (by kernel_rfl) ?h3a6_ ?h4a6_ ?h5a6_ ?h6a6_ (by assumption) ?h8a6_
        case hia6_ => (simp only [List.getElem?_toArray, List.getElem?_cons_succ, List.getElem?_cons_zero]; rfl)
        case h3a6_ => kernel_rfl
        case h4a6_ => kernel_rfl
        case h6a6_ => (refine Or.inl ⟨by rfl, ?_⟩; intro w hSw; (try dsimp only at hSw); (go_simp <;> with_reducible rfl))
        case h5a6_ => exact fun _ _ _ h => h
        try simp only [Act.put, List.setIfInBounds_toArray, List.set_cons_zero, List.set_cons_succ]
        refine wpAnyH_take (i := 5) (oi := ?ooa7_) (v := ?vva7_) ?hia7_ (by kernel_rfl) ?h3a7_ ?h4a7_ ?h5a7_ ?h6a7_ (by assumption) ?h8a7_
        case hia7_ => (simp only [List.getElem?_toArray, List.getElem?_cons_succ, List.getElem?_cons_zero]; rfl)
        case h3a7_ => kernel_rfl
        case h4a7_ => kernel_rfl
        case h6a7_ => (refine Or.inl ⟨by rfl, ?_⟩; intro w hSw; (try dsimp only at hSw); (go_simp <;> with_reducible rfl))
        case h5a7_ => exact fun _ _ _ h => h
        try simp only [Act.put, List.setIfInBounds_toArray, List.set_cons_zero, List.set_cons_succ]
        refine wpAnyH_take (i := 6) (oi := ?ooa8_) (v := ?vva8_) ?hia8_ (by kernel_rfl) ?h3a8_ ?h4a8_ ?h5a8_ ?h6a8_ (by assumption) ?h8a8_
        case hia8_ => (simp only [List.getElem?_toArray, List.getElem?_cons_succ, List.getElem?_cons_zero]; rfl)
        case h3a8_ => kernel_rfl
        case h4a8_ => kernel_rfl
        case h6a8_ => (refine Or.inl ⟨by rfl, ?_⟩; intro w hSw; (try dsimp only at hSw); (go_simp <;> with_reducible rfl))
        case h5a8_ => exact fun _ _ _ h => h
        try simp only [Act.put, List.setIfInBounds_toArray, List.set_cons_zero, List.set_cons_succ]
        refine wpAnyH_ready (rs := [7]) (by kernel_rfl) (by simp) (AllReadyH.cons (o := ?ooa9_q0) ?hia9_q0 (fun K hK => ?hka9_q0) AllReadyH.nil)
        case hia9_q0 => (simp only [List.getElem?_toArray, List.getElem?_cons_succ, List.getElem?_cons_zero]; rfl)
        case hka9_q0 =>
          (rw [if_pos (by rfl)]; go_simp; refine (CN.out _ hHeld.2).mono ?_; rintro e w' ⟨rfl, rfl⟩; go_wp2_with fail; refine hK.out _ _ (hHeld) (fun hHeld => ?_); clear hK K)
          try simp only [Act.put, List.setIfInBounds_toArray, List.set_cons_zero, List.set_cons_succ]
          refine wpAnyH_take (i := 8) (oi := ?ooa10_) (v := ?vva10_) ?hia10_ (by kernel_rfl) ?h3a10_ ?h4a10_ ?h5a10_ ?h6a10_ (by assumption) ?h8a10_
          case hia10_ => (simp only [List.getElem?_toArray, List.getElem?_cons_succ, List.getElem?_cons_zero]; rfl)
          case h3a10_ => kernel_rfl
          case h4a10_ => kernel_rfl
          case h6a10_ => (refine Or.inl ⟨by rfl, ?_⟩; intro w hSw; (try dsimp only at hSw); (go_simp <;> with_reducible rfl))
          case h5a10_ => exact fun _ _ _ h => h
          try simp only [Act.put, List.setIfInBounds_toArray, List.set_cons_zero, List.set_cons_succ]
          refine wpAnyH_take (i := 9) (oi := ?ooa11_) (v := ?vva11_) ?hia11_ (by kernel_rfl) ?h3a11_ ?h4a11_ ?h5a11_ ?h6a11_ (by assumption) ?h8a11_
          case hia11_ => (simp only [List.getElem?_toArray, List.getElem?_cons_succ, List.getElem?_cons_zero]; rfl)
          case h3a11_ => kernel_rfl
          case h4a11_ => kernel_rfl
          case h6a11_ => (refine Or.inl ⟨by rfl, ?_⟩; intro w hSw; (try dsimp only at hSw); (go_simp <;> with_reducible rfl))
          case h5a11_ => exact fun _ _ _ h => h
          try simp only [Act.put, List.setIfInBounds_toArray, List.set_cons_zero, List.set_cons_succ]
          refine wpAnyH_take (i := 10) (oi := ?ooa12_) (v := ?vva12_) ?hia12_ (by kernel_rfl) ?h3a12_ ?h4a12_ ?h5a12_ ?h6a12_ (by assumption) ?h8a12_
          case hia12_ => (simp only [List.getElem?_toArray, List.getElem?_cons_succ, List.getElem?_cons_zero]; rfl)
          case h3a12_ => kernel_rfl
          case h4a12_ => kernel_rfl
          case h6a12_ => (refine Or.inl ⟨by rfl, ?_⟩; intro w hSw; (try dsimp only at hSw); (go_simp <;> with_reducible rfl))
          case h5a12_ => exact fun _ _ _ h => h
          try simp only [Act.put, List.setIfInBounds_toArray, List.set_cons_zero, List.set_cons_succ]
          refine wpAnyH_take (i := 11) (oi := ?ooa13_) (v := ?vva13_) ?hia13_ (by kernel_rfl) ?h3a13_ ?h4a13_ ?h5a13_ ?h6a13_ (by assumption) ?h8a13_
          case hia13_ => (simp only [List.getElem?_toArray, List.getElem?_cons_succ, List.getElem?_cons_zero]; rfl)
          case h3a13_ => kernel_rfl
          case h4a13_ => kernel_rfl
          case h6a13_ => (refine Or.inl ⟨by rfl, ?_⟩; intro w hSw; (try dsimp only at hSw); (go_simp <;> with_reducible rfl))
          case h5a13_ => exact fun _ _ _ h => h
          try simp only [Act.put, List.setIfInBounds_toArray, List.set_cons_zero, List.set_cons_succ]
          refine wpAnyH_take (i := 12) (oi := ?ooa14_) (v := ?vva14_) ?hia14_ (by kernel_rfl) ?h3a14_ ?h4a14_ ?h5a14_ ?h6a14_ (by assumption) ?h8a14_
          case hia14_ => (simp only [List.getElem?_toArray, List.getElem?_cons_succ, List.getElem?_cons_zero]; rfl)
          case h3a14_ => kernel_rfl
          case h4a14_ => kernel_rfl
          case h6a14_ => (refine Or.inl ⟨by rfl, ?_⟩; intro w hSw; (try dsimp only at hSw); (go_simp <;> with_reducible rfl))
          case h5a14_ => exact fun _ _ _ h => h
          try simp only [Act.put, List.setIfInBounds_toArray, List.set_cons_zero, List.set_cons_succ]
          refine wpAnyH_take (i := 13) (oi := ?ooa15_) (v := ?vva15_) ?hia15_ (by kernel_rfl) ?h3a15_ ?h4a15_ ?h5a15_ ?h6a15_ (by assumption) ?h8a15_
          case hia15_ => (simp only [List.getElem?_toArray, List.getElem?_cons_succ, List.getElem?_cons_zero]; rfl)
          case h3a15_ => kernel_rfl
          case h4a15_ => kernel_rfl
          case h6a15_ => (refine Or.inl ⟨by rfl, ?_⟩; intro w hSw; (try dsimp only at hSw); (go_simp <;> with_reducible rfl))
          case h5a15_ => exact fun _ _ _ h => h
          try simp only [Act.put, List.setIfInBounds_toArray, List.set_cons_zero, List.set_cons_succ]
          refine wpAnyH_take (i := 14) (oi := ?ooa16_) (v := ?vva16_) ?hia16_ (by kernel_rfl) ?h3a16_ ?h4a16_ ?h5a16_ ?h6a16_ (by assumption) ?h8a16_
          case hia16_ => (simp only [List.getElem?_toArray, List.getElem?_cons_succ, List.getElem?_cons_zero]; rfl)
          case h3a16_ => kernel_rfl
          case h4a16_ => kernel_rfl
          case h6a16_ => (refine Or.inl ⟨by rfl, ?_⟩; intro w hSw; (try dsimp only at hSw); (go_simp <;> with_reducible rfl))
          case h5a16_ => exact fun _ _ _ h => h
          try simp only [Act.put, List.setIfInBounds_toArray, List.set_cons_zero, List.set_cons_succ]
          refine wpAnyH_take (i := 16) (oi := ?ooa17_) (v := ?vva17_) ?hia17_ (by kernel_rfl) ?h3a17_ ?h4a17_ ?h5a17_ ?h6a17_ (by assumption) ?h8a17_
          case hia17_ => (simp only [List.getElem?_toArray, List.getElem?_cons_succ, List.getElem?_cons_zero]; rfl)
          case h3a17_ => kernel_rfl
          case h4a17_ => kernel_rfl
          case h6a17_ => (refine Or.inl ⟨by rfl, ?_⟩; intro w hSw; (try dsimp only at hSw); (go_simp <;> with_reducible rfl))
          case h5a17_ => exact fun _ _ _ h => h
          try simp only [Act.put, List.setIfInBounds_toArray, List.set_cons_zero, List.set_cons_succ]
          refine wpAnyH_take (i := 17) (oi := ?ooa18_) (v := ?vva18_) ?hia18_ (by kernel_rfl) ?h3a18_ ?h4a18_ ?h5a18_ ?h6a18_ (by assumption) ?h8a18_
          case hia18_ => (simp only [List.getElem?_toArray, List.getElem?_cons_succ, List.getElem?_cons_zero]; rfl)
          case h3a18_ => kernel_rfl
          case h4a18_ => kernel_rfl
          case h6a18_ => (refine Or.inl ⟨by rfl, ?_⟩; intro w hSw; (try dsimp only at hSw); (go_simp <;> with_reducible rfl))
          case h5a18_ => exact fun _ _ _ h => h
          try simp only [Act.put, List.setIfInBounds_toArray, List.set_cons_zero, List.set_cons_succ]
          refine wpAnyH_take (i := 18) (oi := ?ooa19_) (v := ?vva19_) ?hia19_ (by kernel_rfl) ?h3a19_ ?h4a19_ ?h5a19_ ?h6a19_ (by assumption) ?h8a19_
          case hia19_ => (simp only [List.getElem?_toArray, List.getElem?_cons_succ, List.getElem?_cons_zero]; rfl)
          case h3a19_ => kernel_rfl
          case h4a19_ => kernel_rfl
          case h6a19_ => (refine Or.inl ⟨by rfl, ?_⟩; intro w hSw; (try dsimp only at hSw); (go_simp <;> with_reducible rfl))
          case h5a19_ => exact fun _ _ _ h => h
          try simp only [Act.put, List.setIfInBounds_toArray, List.set_cons_zero, List.set_cons_succ]
          refine wpAnyH_ready (rs := [15]) (by kernel_rfl) (by simp) (AllReadyH.cons (o := ?ooa20_q0) ?hia20_q0 (fun K hK => ?hka20_q0) AllReadyH.nil)
          case hia20_q0 => (simp only [List.getElem?_toArray, List.getElem?_cons_succ, List.getElem?_cons_zero]; rfl)
          case hka20_q0 =>
            (rw [if_pos (by rfl)]; go_simp; refine (CR1.out _ hHeld.2).mono ?_; rintro e w' ⟨rfl, rfl⟩; go_wp2_with fail; refine hK.out _ _ (hHeld) (fun hHeld => ?_); clear hK K)
            try simp only [Act.put, List.setIfInBounds_toArray, List.set_cons_zero, List.set_cons_succ]
            refine wpAnyH_ready (rs := [19]) (by kernel_rfl) (by simp) (AllReadyH.cons (o := ?ooa21_q0) ?hia21_q0 (fun K hK => ?hka21_q0) AllReadyH.nil)
            case hia21_q0 => (simp only [List.getElem?_toArray, List.getElem?_cons_succ, List.getElem?_cons_zero]; rfl)
            case hka21_q0 =>
              (rw [if_pos (by rfl)]; go_simp; refine (CR2.out _ hHeld.2).mono ?_; rintro e w' ⟨rfl, rfl⟩; go_wp2_with fail; refine hK.out _ _ (hHeld) (fun hHeld => ?_); clear hK K)
              try simp only [Act.put, List.setIfInBounds_toArray, List.set_cons_zero, List.set_cons_succ]
              refine wpAnyH_take (i := 20) (oi := ?ooa22_) (v := ?vva22_) ?hia22_ (by kernel_rfl) ?h3a22_ ?h4a22_ ?h5a22_ ?h6a22_ (by assumption) ?h8a22_
              case hia22_ => (simp only [List.getElem?_toArray, List.getElem?_cons_succ, List.getElem?_cons_zero]; rfl)
              case h3a22_ => kernel_rfl
              case h4a22_ => kernel_rfl
              case h6a22_ => (refine Or.inl ⟨by rfl, ?_⟩; intro w hSw; (try dsimp only at hSw); (go_simp <;> with_reducible rfl))
              case h5a22_ => exact fun _ _ _ h => h
              try simp only [Act.put, List.setIfInBounds_toArray, List.set_cons_zero, List.set_cons_succ]
              refine wpAnyH_take (i := 21) (oi := ?ooa23_) (v := ?vva23_) ?hia23_ (by kernel_rfl) ?h3a23_ ?h4a23_ ?h5a23_ ?h6a23_ (by assumption) ?h8a23_
              case hia23_ => (simp only [List.getElem?_toArray, List.getElem?_cons_succ, List.getElem?_cons_zero]; rfl)
              case h3a23_ => kernel_rfl
              case h4a23_ => kernel_rfl
              case h6a23_ => (refine Or.inl ⟨by rfl, ?_⟩; intro w hSw; (try dsimp only at hSw); (go_simp <;> with_reducible rfl))
              case h5a23_ => exact fun _ _ _ h => h
              try simp only [Act.put, List.setIfInBounds_toArray, List.set_cons_zero, List.set_cons_succ]
              refine wpAnyH_done (by kernel_rfl) ?_ _
              clear HMK1
              have C := hHeld.2
              replace B := bel_tr B C
              replace D := bel_tr D C
              have O1 := HO1.out.of_block C
              clear hHeld C
              go_wp2_with fail
              go_roundw
              case rel => exact ⟨k + 1, by omega, by go_num, B, D, O1⟩
              case measure => simp [intOf]; omega
      · obtain rfl : k = R.length := by omega
        have el : ((R.length : Int) == (rs.length : Int)) = true := by rw [beq_iff_eq, HL.out]
        have el2 : (R.length == rs.length) = true := by rw [beq_iff_eq, HL.out]
        clear O1
        go_wp2_with fail
        go_ret
        exact ⟨rfl, B⟩

set_option maxRecDepth 100000 in
theorem lifted (os : Os) (started : os.Started) (H : Type) (enc : TypeId × Value → H) :
    ReturnsInHanded {} Try.checked os 6 .any (Rows.fnTradeTurnsSpec.pre6 enc Try.prog Try.f6 Rows.fnTradeTurnsRow.domain false) (Rows.fnTradeTurnsSpec.post enc Try.prog Try.f6 false true false false) := by
  refine returnsInHanded_of_change (C := Try.checked) own started (by kernel_rfl) Try.func6
    (ChangeSpec.witness6 (enc := enc) (C := Try.checked) false ⟨#[], #[.slice none 0 0], []⟩ 8 (by kernel_rfl) (by kernel_rfl) (by kernel_rfl) (by kernel_rfl)) ?_
  intro W base args ds gs before hval0 hW hcnd _
  have hval : ∀ (j : Nat) t v, Try.f6.params[j]? = some t → args[j]? = some v → Value.okWide Try.prog W .any base t v := hval0
  have hW' := hW
  obtain ⟨p, q, hA0, hV, rfl, hfz, hnd⟩ := hW
  have hA : DataW.TrodAll enc Try.prog W 0 (fun _ => true) true Try.f6.params.toList args.toList ds p := hA0
  rw [Try.params6] at hA hval
  obtain ⟨v0, vs0, e0, es0, p0, q0, hargs, rfl, rfl, h0, r0⟩ := trodAll_cons hA
  obtain ⟨rfl, rfl, rfl⟩ := trodAll_nil r0
  obtain rfl : args = #[v0] := by cases args; simp_all
  obtain ⟨rfl, rfl⟩ := trodVars_none hV
  have k0 := h0
  have lt0 : ∀ x ∈ p0, x.block < W.heap.size := by obtain ⟨m, hm⟩ := k0; exact DataW.trod_lt m _ _ _ hm
  obtain ⟨a0, len0, cap0, rfl⟩ := okWide_slice Try.underlying33 (hval 0 33 v0 rfl rfl)
  obtain ⟨z0, w0⟩ : ∃ zs, IsRow .u8 W a0 len0 cap0 zs := by
    obtain ⟨fuel, hf⟩ := h0
    rcases open_ints Try.underlying33 Try.underlying5 (by kernel_rfl) hf with ⟨hcs, _⟩ | ⟨x, l, c, zs, hcs, _, hl, hm, hz, _, hcell, hwz⟩
    · simp [Value.cells] at hcs
      obtain ⟨rfl, rfl, rfl⟩ := hcs
      exact ⟨[], .inl ⟨rfl, rfl, rfl, rfl⟩⟩
    · simp [Value.cells] at hcs
      obtain ⟨rfl, rfl, rfl⟩ := hcs
      exact ⟨zs, .inr ⟨_, rfl, hl, hm, by simpa using hz, hcell, hwz⟩⟩
  clear hA0 hval0
  refine (walk a0 len0 cap0 z0 W w0).mono fun e W' ⟨he, bel⟩ => ?_
  subst he
  exact ⟨_, rfl, _, _, _, [], _, [], hW', trodAll_mk1 (shut_bool Try.underlying4 _), (trodAll_cons_mk (Below.trod laidOut (by kernel_rfl) (of_decide_eq_true (by kernel_rfl)) k0 bel lt0) trodAll_mk0), rfl, bel.frame _, fun h => by cases h⟩

theorem over : Rows.fnTradeTurnsRow.holds Try.pinned (OpenSpec.ofChange Rows.fnTradeTurnsSpec) :=
  OpenClaim.holds_of_wide 6 Try.f6 rfl rfl rfl rfl rfl rfl rfl ⟨rfl, rfl, rfl, rfl, rfl⟩ rfl rfl rfl rfl rfl (by kernel_rfl) Try.func6 (by kernel_rfl)
    (of_decide_eq_true (by kernel_rfl)) (by unfold Func.isWrapper; first | (rw [if_pos (by decide +kernel)]; kernel_rfl) | (rw [if_neg (by decide +kernel)]; exact ⟨rfl, rfl⟩))
    (fun os started H enc _ => lifted os started H enc)

end Go.Proofs.Ytclpbbhhaclgbaa.fnTradeTurns
namespace Go.Proofs.Ytclpbbhhaclgbaa
/-- the statement -/
theorem fnTradeTurns_holds : Rows.FnTradeTurnsSaid := fnTradeTurns.over
end Go.Proofs.Ytclpbbhhaclgbaa
