/- For every input the law answers true, and its argument reads afterwards as before: from the spring to the leaves. No condition. -/
import Derived.Test.YtlpmeljneogpiabRows
import Derived.Test.YtlpmeljneogpiabDrawNc
import Derived.Test.YtlpmeljneogpiabEqI
import Derived.Test.YtlpmeljneogpiabFlowA
import Derived.Test.YtlpmeljneogpiabFlowX
import Derived.Test.YtlpmeljneogpiabFlowS
import Derived.Test.YtlpmeljneogpiabArrM
import Derived.WalkKit
import Derived.Deep.RegionHeld3
import Derived.Deep.QuietTactic
import Derived.BigQuiet
import Derived.ProofKit
import Derived.OpenShut
import Derived.ShutString
import Derived.ChangeOld
import Derived.Below
import Derived.Lib.SmallJoins
namespace Go.Proofs.Ytlpmeljneogpiab.fnArriveAtSum
open Go.ChangeShapes Go.WideShapes Go.ChangeAt Go.RowKit Go.Joins
open Go.ChangeMaps (open_string shut_string)
set_option linter.unusedVariables false
set_option linter.unusedSimpArgs false

theorem own : ownKnob Try.prog.godebug = none := by kernel_rfl
theorem laidOut : laidOutB Try.prog = true := by kernel_rfl

set_option maxRecDepth 100000 in
set_option maxHeartbeats 8000000 in
theorem walk (a0 : Option Addr) (len0 cap0 : Nat) (z0 : List Int) (w : World) (w0 : IsRow .u8 w a0 len0 cap0 z0) :
    Calls Try.prog 8 #[.slice a0 len0 cap0] w fun e w' => e = .returned (.bool true) ∧ Below w.heap.size w w' := by
  by_cases big : (1048576 : Int) < (len0 : Int)
  · go_enter Try.func8, Try.ntmps8
    go_wp2
    go_ret
    exact ⟨rfl, Below.refl _ _⟩
  go_enter Try.func8, Try.ntmps8
  go_wp2_with fail
  refine (drawArriveAt a0 len0 cap0 z0 _ w0).mono ?_
  rintro e u1 ⟨b, cp, xs, at_, b2, c2, fs, rfl, l1, l10, hlc, I, i0, i1, hl, hz, J, B⟩
  clear w0 big
  have n1 : xs.length ≤ 1048576 := by omega
  have nf : fs.length ≤ 1048576 := by omega
  have OA := Lib.hid (fun (W : World) (h : IsNd W b xs) (hj : IsInts W b2 fs) => iArrive b b2 cp c2 xs at_ fs W h n1 hlc hj nf)
  have OB := Lib.hid (fun (W : World) (h : IsNd W b xs) (hj : IsInts W b2 fs) => sArrive b b2 cp c2 xs at_ fs W h n1 hj nf)
  by_cases hv : arriveV xs at_ fs = []
  · rw [hv] at OA OB
    clear hv
    go_wp2_with fail
    refine (OA.out _ I J).mono ?_
    rintro e u2 ⟨vO, rfl, O, C⟩
    obtain ⟨bO, cO, rfl, _⟩ := O.ints
    replace B := bel_tr B C
    replace I := nd_below I C
    replace J := ints_below J C
    clear C
    go_wp2_with fail
    refine (OB.out _ I J).mono ?_
    rintro e u3 ⟨vP, rfl, P, C⟩
    obtain ⟨bP, cP, rfl, _⟩ := P.ints
    replace B := bel_tr B C
    replace I := nd_below I C
    replace J := ints_below J C
    replace O := O.of_block C
    clear C
    go_wp2_with fail
    refine (eqInts _ _ _ _ [] _ O.at_ P.at_ (by simp)).mono ?_
    rintro e u4 ⟨rfl, C⟩
    replace B := bel_tr B C
    replace I := nd_below I C
    replace J := ints_below J C
    replace O := O.of_block C
    replace P := P.of_block C
    clear C
    go_wp2_with fail
    clear P
    refine (OB.out _ I J).mono ?_
    rintro e u5 ⟨vQ, rfl, Q, C⟩
    obtain ⟨bQ, cQ, rfl, _⟩ := Q.ints
    replace B := bel_tr B C
    replace I := nd_below I C
    replace J := ints_below J C
    replace O := O.of_block C
    clear C
    go_wp2_with fail
    refine (eqInts _ _ _ _ [] _ O.at_ Q.at_ (by simp)).mono ?_
    rintro e u6 ⟨rfl, C⟩
    replace B := bel_tr B C
    replace I := nd_below I C
    replace J := ints_below J C
    replace O := O.of_block C
    replace Q := Q.of_block C
    clear C
    go_wp2_with fail
    go_ret
    exact ⟨rfl, B⟩
  have hav : avB xs at_ fs = true := by
    cases c : avB xs at_ fs with
    | true => rfl
    | false => exact absurd (arrive_no c) hv
  obtain ⟨h1, h2, _, h4⟩ := av_is hav
  obtain ⟨k, rfl, hk⟩ := inN_yes h2
  rw [arrive_yes hav] at OA OB hv
  have hal := arrF_len xs k fs
  have hf0 : 0 < fs.length := by
    cases c : fs.length with
    | zero => exact absurd (List.eq_nil_of_length_eq_zero (hal.trans c)) hv
    | succ n => omega
  have nR : (arrF xs k fs).length ≤ 1048576 := by omega
  have q0 : (((arrF xs k fs).length : Int) == 0) = false := beq_eq_false_iff_ne.2 (by omega)
  have q1 : ((arrF xs k fs).length == 0) = false := beq_eq_false_iff_ne.2 (by omega)
  have hf2 := (av_is hav).2.2.1
  obtain ⟨ys, hys⟩ : ∃ ys, ys = stT xs xs.length := ⟨_, rfl⟩
  obtain ⟨H, T, H0, T0, HS, HB, TS, TB, HE, LS12⟩ := still_sum h1 h4 hf2 hys
  have hvy : vnB ys = true := by rw [hys]; exact still_vn h1
  have hyl : ys.length = xs.length := by rw [hys]; exact stT_len _ _
  have y12 := (vn_is hvy).2.1
  have hlb := fun x (hx : 0 ≤ x ∧ x ≤ 500) => lost_bd hvy hx ys.length (Nat.le_refl _)
  have hlv : leavesV ys = leavesTo ys ys.length := by unfold leavesV; rw [if_pos hvy]
  have hlo2 : ∀ x, 0 ≤ x ∧ x ≤ 500 → lostV ys x = lostTo ys x ys.length := fun x hx => lost_yes (by unfold flB; rw [hvy, decide_eq_true hx.1, decide_eq_true hx.2]; rfl)
  have hav2 : ∀ j : Nat, j < ys.length → arriveV ys (j : Int) fs = arrF ys j fs := fun j hj => arrive_yes (by unfold avB; rw [hvy, inN_is hj, decide_eq_true hf2, h4]; rfl)
  have harl := fun j => arrF_len ys j fs
  obtain ⟨ls, hls⟩ : ∃ ls, leavesTo ys ys.length = ls := ⟨_, rfl⟩
  obtain ⟨lo, hlo⟩ : ∃ lo : Int → Int, ∀ x, lostTo ys x ys.length = lo x := ⟨_, fun _ => rfl⟩
  obtain ⟨ar, har⟩ : ∃ ar : Nat → List Int, ∀ j, arrF ys j fs = ar j := ⟨_, fun _ => rfl⟩
  rw [hls] at TS TB HE LS12 hlv
  simp only [hlo] at HS hlb hlo2
  simp only [har] at TS hav2 harl
  have LA : Hid (∀ (W : World) (g c : Nat), Flat W g 34 (flatNd ys) → xs.length ≤ c → Calls Try.prog 29 #[.slice (some ⟨g, 0, none⟩) xs.length c] W (OutI W ls)) := fun W g c hF hc => by
    have := iLeaves (some ⟨g, 0, none⟩) c ys W hF.nd (by omega) (by omega)
    rw [hlv, hyl] at this; exact this
  have LO : Hid (∀ (W : World) (g c : Nat), Flat W g 34 (flatNd ys) → xs.length ≤ c → ∀ x : Int, 0 ≤ x ∧ x ≤ 500 → Calls Try.prog 28 #[.slice (some ⟨g, 0, none⟩) xs.length c, .int .i64 x] W (fun e w' => e = .returned (.int .i64 (lo x)) ∧ Below W.heap.size W w')) := fun W g c hF hc x hx => by
    have := iLost (some ⟨g, 0, none⟩) c ys x W hF.nd (by omega) (by omega)
    rw [hlo2 x hx, hyl] at this; exact this
  have AR : Hid (∀ (W : World) (g c : Nat), Flat W g 34 (flatNd ys) → IsInts W b2 fs → xs.length ≤ c → ∀ j : Nat, j < xs.length → Calls Try.prog 24 #[.slice (some ⟨g, 0, none⟩) xs.length c, .int .i64 (j : Int), .slice b2 fs.length c2] W (OutI W (ar j))) := fun W g c hF hJ hc j hj => by
    have := iArrive (some ⟨g, 0, none⟩) b2 c c2 ys (j : Int) fs W hF.nd (by omega) (by omega) hJ nf
    rw [hav2 j (by omega), hyl] at this; exact this
  have FST : Hid (∀ (W : World) (g q : Nat), Flat W g 34 (flatNd (stT xs q)) → q < xs.length → Flat (W.setCell ⟨g, q * 5 + 4, none⟩ (.int .i64 0)) g 34 (flatNd (stT xs (q + 1)))) := fun W g q hF hq => by
    have hl := flatNd_len (stT xs q)
    rw [stT_len] at hl
    have a := hF.set_ (i := q * 5 + 4) (by omega) 0
    rw [flatNd_still _ q 0 (by rw [stT_len]; exact hq)] at a
    exact a
  have HFB := Lib.hid (fun i (hi : i < fs.length) => (allB_iff fs 500).1 h4 _ (getD_mem hi))
  have HLB : Hid (∀ x, 0 ≤ x ∧ x ≤ 500 → 0 ≤ lo x ∧ lo x ≤ 6000) := fun x hx => by have := hlb x hx; omega
  have HHS := Lib.hid HS
  have HHB := Lib.hid HB
  have HTS := Lib.hid TS
  have HTB := Lib.hid TB
  have HAL := Lib.hid harl
  have HYS := Lib.hid hys
  have HYL := Lib.hid hyl
  have HEE := Lib.hid HE
  have HH0 := Lib.hid H0
  have HT0 := Lib.hid T0
  obtain ⟨iN, jN, kN, lN, mN⟩ := info_parts infoNd
  clear hav h1 h2 h4 hz hal hys hyl hvy y12 hlb hlv hlo2 hav2 harl hls hlo har HS HB TS TB HE H0 T0
  have x1 : 1 ≤ xs.length := by omega
  generalize arrF xs k fs = as_ at *
  go_wp2_with fail
  refine (OA.out _ I J).mono ?_
  rintro e u2 ⟨vO, rfl, O, C⟩
  obtain ⟨bO, cO, rfl, _⟩ := O.ints
  replace B := bel_tr B C
  replace I := nd_below I C
  replace J := ints_below J C
  clear C
  go_wp2_with fail
  refine (OB.out _ I J).mono ?_
  rintro e u3 ⟨vP, rfl, P, C⟩
  obtain ⟨bP, cP, rfl, _⟩ := P.ints
  replace B := bel_tr B C
  replace I := nd_below I C
  replace J := ints_below J C
  replace O := O.of_block C
  clear C
  go_wp2_with fail
  refine (eqInts _ _ _ _ as_ _ O.at_ P.at_ nR).mono ?_
  rintro e u4 ⟨rfl, C⟩
  replace B := bel_tr B C
  replace I := nd_below I C
  replace J := ints_below J C
  replace O := O.of_block C
  replace P := P.of_block C
  clear C
  clear P
  have hrd := (nd_reads I).alloc (Nat.le_refl _) (.cells #[] 34)
  have HBU : Hid (∀ W, (u4.alloc (.cells #[] 34)).grownBy W (some u4.heap.size) → Below u4.heap.size u4 W) := fun W hg => ((Below.refl u4.heap.size u4).alloc (Nat.le_refl _) _).grown hg (by simp <;> omega) (fun q hq => by have e : u4.heap.size = q := Option.some.inj hq; omega)
  have hwu := B.size
  have HB0 := Lib.hid B
  have HJ0 := Lib.hid J
  clear B J I O OA OB
  go_wp2_with (first | (at_builtin; refine wpList_append_any _ rfl (.tmp 44) (.tmp 45) _ rfl u4.heap.size 34 iN _ 5 40 Try.underlying23 jN kN lN mN rfl (by omega) _ 0 [] rfl ⟨rfl, .inr ⟨u4.heap.size, 0, #[], rfl, Nat.le_refl _, Blk.new _ _ _, Nat.le_refl _, by unfold maxLen; omega, rfl, rfl⟩⟩ u4.heap.size b xs.length cp (valsNd xs) rfl hrd (valsNd_one xs) (by unfold maxLen; omega) (by omega) (by simp <;> omega) ?_; intro v3 w3 hown3 hgrow3 hat3; obtain ⟨g3, c3, rfl, lg3, F3, hcc⟩ := flat_newNd hown3 (by omega); have C3 := Lib.hid (HBU.out w3 hgrow3); replace F3 := Lib.hid F3; clear hown3 hgrow3 hat3 hrd HBU))
  go_loopw [8] (fun i wr => ∃ q : Nat, q ≤ xs.length ∧ i = .int .i64 q ∧ Hid (Flat wr g3 34 (flatNd (stT xs q)) ∧ Below u4.heap.size u4 wr)) (fun i _ => xs.length - (intOf i).toNat)
  case atStart => exact ⟨0, Nat.zero_le _, rfl, F3.out, C3.out⟩
  case round =>
    clear F3 C3
    obtain ⟨q, hq, rfl, HR⟩ := hrel
    by_cases hlt : q < xs.length
    · have kc := HR.out.1.cell (j := q * 5 + 4) (by rw [flatNd_len, stT_len]; omega)
      have kf := HR.out.1.frozen (q * 5 + 4)
      have HF : Hid (Flat (wr.setCell ⟨g3, q * 5 + 4, none⟩ (.int .i64 0)) g3 34 (flatNd (stT xs (q + 1))) ∧ Below u4.heap.size u4 (wr.setCell ⟨g3, q * 5 + 4, none⟩ (.int .i64 0))) := ⟨FST.out _ _ _ HR.out.1 hlt, HR.out.2.setCell (p := ⟨g3, q * 5 + 4, none⟩) lg3 _⟩
      have b2_ : (0 : Int) ≤ (q : Int) := by omega
      have b3_ : (q : Int) < (xs.length : Int) := by omega
      clear HR
      go_wp2_with fail
      go_roundw
      case rel => exact ⟨q + 1, by omega, by go_num, HF.out⟩
      case measure => simp [intOf]; omega
    obtain rfl : q = xs.length := by omega
    have F := HR.out.1
    rw [← HYS.out] at F
    have J := ints_below HJ0.out HR.out.2
    have B := bel_tr HB0.out HR.out.2
    clear HR HB0 HJ0 FST HYS hlt hq
    obtain ⟨w4, h4_⟩ : ∃ W, W = wr := ⟨_, rfl⟩
    subst h4_
    go_wp2_with fail
    go_loopw [9, 10] (fun n i wr => ∃ q : Nat, q ≤ fs.length ∧ i = .int .i64 q ∧ n = .int .i64 (H q) ∧ Hid (Below w4.heap.size w4 wr)) (fun _ i _ => fs.length - (intOf i).toNat)
    case atStart => exact ⟨0, Nat.zero_le _, rfl, by rw [HH0.out], Below.refl _ _⟩
    case round =>
      obtain ⟨q, hq, rfl, rfl, HR⟩ := hrel
      by_cases hlt : q < fs.length
      · have FR := F.next HR.out
        rcases (show IsInts wr b2 fs from ints_below J HR.out) with rfl | ⟨gf, of_, rfl, hcf⟩
        · simp at hlt
        have c0 := hcf q hlt
        have HX := HFB.out q hlt
        have hs := HHS.out q hlt
        have hb := HHB.out q (by omega)
        generalize fs.getD q 0 = x at c0 HX hs
        have hy := HLB.out x HX
        have HXX := Lib.hid HX
        have HQ := Lib.hid (fun (W : World) (hW : Below wr.heap.size wr W) => LO.out W g3 c3 (FR.next hW) hcc x HXX.out)
        generalize lo x = y at hs hy HQ
        obtain ⟨t, ht⟩ : ∃ t, H q = t := ⟨_, rfl⟩
        obtain ⟨t2, ht2⟩ : ∃ t2, H (q + 1) = t2 := ⟨_, rfl⟩
        rw [ht] at hs hb ⊢
        rw [ht2] at hs
        have HT2 := Lib.hid ht2
        have w1_ : IntKind.i64.wrap (t + x) = t + x := by rw [IntKind.wrap_i64]; omega
        have w2_ : IntKind.i64.wrap (t + x - y) = t2 := by rw [IntKind.wrap_i64]; omega
        have b2_ : (0 : Int) ≤ (q : Int) := by omega
        have b3_ : (q : Int) < (fs.length : Int) := by omega
        have HRR := HR
        clear HR FR hcf ht ht2 hs hb hy HX F J B
        go_wp2_with fail
        refine wp_region_held_drew (S := (fun W' => (W'.cell? ⟨gf, of_ + q, none⟩ = some (.int .i64 x) ∧ W'.cell? ⟨gf, of_ + q, none⟩ = some (.int .i64 x) ∧ W'.cell? ⟨gf, of_ + q, none⟩ = some (.int .i64 x) ∧ W'.cell? ⟨gf, of_ + q, none⟩ = some (.int .i64 x) ∧ W'.cell? ⟨gf, of_ + q, none⟩ = some (.int .i64 x) ∧ W'.cell? ⟨gf, of_ + q, none⟩ = some (.int .i64 x)) ∧ Below wr.heap.size wr W')) (by kernel_rfl) ?_ (fun hHeld => ?_)
        · exact ⟨⟨c0, c0, c0, c0, c0, c0⟩, (Below.refl _ _).drew⟩
        refine wpAnyH_take (i := 0) (oi := ?oob0) (v := ?vvb0) ?hib0 (by kernel_rfl) ?h3b0 ?h4b0 ?h5b0 ?h6b0 (by assumption) ?h8b0
        case hib0 => (simp only [List.getElem?_toArray, List.getElem?_cons_succ, List.getElem?_cons_zero]; rfl)
        case h3b0 => kernel_rfl
        case h4b0 => kernel_rfl
        case h6b0 => (refine Or.inl ⟨by rfl, ?_⟩; intro w hSw; (try dsimp only at hSw); (go_simp <;> with_reducible rfl))
        case h5b0 => exact fun _ _ _ h => h
        try simp only [Act.put, List.setIfInBounds_toArray, List.set_cons_zero, List.set_cons_succ]
        refine wpAnyH_take (i := 1) (oi := ?oob1) (v := ?vvb1) ?hib1 (by kernel_rfl) ?h3b1 ?h4b1 ?h5b1 ?h6b1 (by assumption) ?h8b1
        case hib1 => (simp only [List.getElem?_toArray, List.getElem?_cons_succ, List.getElem?_cons_zero]; rfl)
        case h3b1 => kernel_rfl
        case h4b1 => kernel_rfl
        case h6b1 => (refine Or.inl ⟨by rfl, ?_⟩; intro w hSw; (try dsimp only at hSw); (go_simp <;> with_reducible rfl))
        case h5b1 => exact fun _ _ _ h => h
        try simp only [Act.put, List.setIfInBounds_toArray, List.set_cons_zero, List.set_cons_succ]
        refine wpAnyH_take (i := 2) (oi := ?oob2) (v := ?vvb2) ?hib2 (by kernel_rfl) ?h3b2 ?h4b2 ?h5b2 ?h6b2 (by assumption) ?h8b2
        case hib2 => (simp only [List.getElem?_toArray, List.getElem?_cons_succ, List.getElem?_cons_zero]; rfl)
        case h3b2 => kernel_rfl
        case h4b2 => kernel_rfl
        case h6b2 => (refine Or.inl ⟨by rfl, ?_⟩; intro w hSw; (try dsimp only at hSw); (go_simp <;> with_reducible rfl))
        case h5b2 => exact fun _ _ _ h => h
        try simp only [Act.put, List.setIfInBounds_toArray, List.set_cons_zero, List.set_cons_succ]
        refine wpAnyH_take (i := 3) (oi := ?oob3) (v := ?vvb3) ?hib3 (by kernel_rfl) ?h3b3 ?h4b3 ?h5b3 ?h6b3 (by assumption) ?h8b3
        case hib3 => (simp only [List.getElem?_toArray, List.getElem?_cons_succ, List.getElem?_cons_zero]; rfl)
        case h3b3 => kernel_rfl
        case h4b3 => kernel_rfl
        case h6b3 => (refine Or.inl ⟨by rfl, ?_⟩; intro w hSw; (try dsimp only at hSw); (go_simp <;> with_reducible rfl))
        case h5b3 => exact fun _ _ _ h => h
        try simp only [Act.put, List.setIfInBounds_toArray, List.set_cons_zero, List.set_cons_succ]
        refine wpAnyH_take (i := 4) (oi := ?oob4) (v := ?vvb4) ?hib4 (by kernel_rfl) ?h3b4 ?h4b4 ?h5b4 ?h6b4 (by assumption) ?h8b4
        case hib4 => (simp only [List.getElem?_toArray, List.getElem?_cons_succ, List.getElem?_cons_zero]; rfl)
        case h3b4 => kernel_rfl
        case h4b4 => kernel_rfl
        case h6b4 => (refine Or.inl ⟨by rfl, ?_⟩; intro w hSw; (try dsimp only at hSw); (go_simp <;> with_reducible rfl))
        case h5b4 => exact fun _ _ _ h => h
        try simp only [Act.put, List.setIfInBounds_toArray, List.set_cons_zero, List.set_cons_succ]
        refine wpAnyH_take (i := 5) (oi := ?oob5) (v := ?vvb5) ?hib5 (by kernel_rfl) ?h3b5 ?h4b5 ?h5b5 ?h6b5 (by assumption) ?h8b5
        case hib5 => (simp only [List.getElem?_toArray, List.getElem?_cons_succ, List.getElem?_cons_zero]; rfl)
        case h3b5 => kernel_rfl
        case h4b5 => kernel_rfl
        case h6b5 => (refine Or.inl ⟨by rfl, ?_⟩; intro w hSw; (try dsimp only at hSw); (go_simp <;> with_reducible rfl))
        case h5b5 => exact fun _ _ _ h => h
        try simp only [Act.put, List.setIfInBounds_toArray, List.set_cons_zero, List.set_cons_succ]
        refine wpAnyH_take (i := 6) (oi := ?oob6) (v := ?vvb6) ?hib6 (by kernel_rfl) ?h3b6 ?h4b6 ?h5b6 ?h6b6 (by assumption) ?h8b6
        case hib6 => (simp only [List.getElem?_toArray, List.getElem?_cons_succ, List.getElem?_cons_zero]; rfl)
        case h3b6 => kernel_rfl
        case h4b6 => kernel_rfl
        case h6b6 => (refine Or.inl ⟨by rfl, ?_⟩; intro w hSw; (try dsimp only at hSw); (go_simp <;> with_reducible rfl))
        case h5b6 => exact fun _ _ _ h => h
        try simp only [Act.put, List.setIfInBounds_toArray, List.set_cons_zero, List.set_cons_succ]
        refine wpAnyH_take (i := 7) (oi := ?oob7) (v := ?vvb7) ?hib7 (by kernel_rfl) ?h3b7 ?h4b7 ?h5b7 ?h6b7 (by assumption) ?h8b7
        case hib7 => (simp only [List.getElem?_toArray, List.getElem?_cons_succ, List.getElem?_cons_zero]; rfl)
        case h3b7 => kernel_rfl
        case h4b7 => kernel_rfl
        case h6b7 => (refine Or.inl ⟨by rfl, ?_⟩; intro w hSw; (try dsimp only at hSw); (go_simp <;> with_reducible rfl))
        case h5b7 => exact fun _ _ _ h => h
        try simp only [Act.put, List.setIfInBounds_toArray, List.set_cons_zero, List.set_cons_succ]
        refine wpAnyH_take (i := 8) (oi := ?oob8) (v := ?vvb8) ?hib8 (by kernel_rfl) ?h3b8 ?h4b8 ?h5b8 ?h6b8 (by assumption) ?h8b8
        case hib8 => (simp only [List.getElem?_toArray, List.getElem?_cons_succ, List.getElem?_cons_zero]; rfl)
        case h3b8 => kernel_rfl
        case h4b8 => kernel_rfl
        case h6b8 => (refine Or.inl ⟨by rfl, ?_⟩; intro w hSw; (try dsimp only at hSw); (go_simp <;> with_reducible rfl))
        case h5b8 => exact fun _ _ _ h => h
        try simp only [Act.put, List.setIfInBounds_toArray, List.set_cons_zero, List.set_cons_succ]
        refine wpAnyH_take (i := 9) (oi := ?oob9) (v := ?vvb9) ?hib9 (by kernel_rfl) ?h3b9 ?h4b9 ?h5b9 ?h6b9 (by assumption) ?h8b9
        case hib9 => (simp only [List.getElem?_toArray, List.getElem?_cons_succ, List.getElem?_cons_zero]; rfl)
        case h3b9 => kernel_rfl
        case h4b9 => kernel_rfl
        case h6b9 => (refine Or.inl ⟨by rfl, ?_⟩; intro w hSw; (try dsimp only at hSw); (go_simp <;> with_reducible rfl))
        case h5b9 => exact fun _ _ _ h => h
        try simp only [Act.put, List.setIfInBounds_toArray, List.set_cons_zero, List.set_cons_succ]
        refine wpAnyH_take (i := 10) (oi := ?oob10) (v := ?vvb10) ?hib10 (by kernel_rfl) ?h3b10 ?h4b10 ?h5b10 ?h6b10 (by assumption) ?h8b10
        case hib10 => (simp only [List.getElem?_toArray, List.getElem?_cons_succ, List.getElem?_cons_zero]; rfl)
        case h3b10 => kernel_rfl
        case h4b10 => kernel_rfl
        case h6b10 => (refine Or.inl ⟨by rfl, ?_⟩; intro w hSw; (try dsimp only at hSw); (go_simp <;> with_reducible rfl))
        case h5b10 => exact fun _ _ _ h => h
        try simp only [Act.put, List.setIfInBounds_toArray, List.set_cons_zero, List.set_cons_succ]
        refine wpAnyH_ready (rs := [11]) (by kernel_rfl) (by simp) (AllReadyH.cons (o := ?oob11) ?hib11 (fun K hK => ?hkb11) AllReadyH.nil)
        rotate_left
        case hib11 => (simp only [List.getElem?_toArray, List.getElem?_cons_succ, List.getElem?_cons_zero]; rfl)
        (rw [if_pos (by rfl)]; go_simp; refine (HQ.out _ hHeld.2).mono ?_; rintro e wq2 ⟨rfl, hb⟩; go_wp2_with fail; refine hK.out _ _ (kp6 hb hHeld) (fun hHeld => ?_); clear hK K)
        try simp only [Act.put, List.setIfInBounds_toArray, List.set_cons_zero, List.set_cons_succ]
        refine wpAnyH_take (i := 12) (oi := ?oob12) (v := ?vvb12) ?hib12 (by kernel_rfl) ?h3b12 ?h4b12 ?h5b12 ?h6b12 (by assumption) ?h8b12
        case hib12 => (simp only [List.getElem?_toArray, List.getElem?_cons_succ, List.getElem?_cons_zero]; rfl)
        case h3b12 => kernel_rfl
        case h4b12 => kernel_rfl
        case h6b12 => (refine Or.inl ⟨by rfl, ?_⟩; intro w hSw; (try dsimp only at hSw); (go_simp <;> with_reducible rfl))
        case h5b12 => exact fun _ _ _ h => h
        try simp only [Act.put, List.setIfInBounds_toArray, List.set_cons_zero, List.set_cons_succ]
        refine wpAnyH_take (i := 13) (oi := ?oob13) (v := ?vvb13) ?hib13 (by kernel_rfl) ?h3b13 ?h4b13 ?h5b13 ?h6b13 (by assumption) ?h8b13
        case hib13 => (simp only [List.getElem?_toArray, List.getElem?_cons_succ, List.getElem?_cons_zero]; rfl)
        case h3b13 => kernel_rfl
        case h4b13 => kernel_rfl
        case h6b13 => (refine Or.inl ⟨by rfl, ?_⟩; intro w hSw; (try dsimp only at hSw); (go_simp <;> with_reducible rfl))
        case h5b13 => exact fun _ _ _ h => h
        try simp only [Act.put, List.setIfInBounds_toArray, List.set_cons_zero, List.set_cons_succ]
        refine wpAnyH_done (by kernel_rfl) ?_ _
        have HF : Hid (Below w4.heap.size w4 wq2) := bel_tr HRR.out hHeld.2
        clear hHeld hb HRR
        go_wp2_with fail
        go_roundw
        case rel => exact ⟨q + 1, by omega, by go_num, by rw [HT2.out], HF.out⟩
        case measure => simp [intOf]; omega
      obtain rfl : q = fs.length := by omega
      replace F := F.next HR.out
      replace J := ints_below J HR.out
      replace B := bel_tr B HR.out
      have hb := HHB.out fs.length (Nat.le_refl _)
      clear HR LO HHS HHB HFB HLB hq hlt
      obtain ⟨w5, h5_⟩ : ∃ W, W = wr := ⟨_, rfl⟩
      subst h5_
      go_wp2_with fail
      refine (LA.out _ _ _ F hcc).mono ?_
      rintro e u21 ⟨vM, rfl, M, C⟩
      obtain ⟨bM, cM, rfl, _⟩ := M.ints
      replace B := bel_tr B C
      replace F := F.next C
      replace J := ints_below J C
      clear C
      go_wp2_with fail
      go_loopw [9, 12] (fun n i wr => ∃ m : Nat, m ≤ ls.length ∧ i = .int .i64 m ∧ n = .int .i64 (H fs.length - T m) ∧ Hid (Below u21.heap.size u21 wr)) (fun _ i _ => ls.length - (intOf i).toNat)
      case atStart => exact ⟨0, Nat.zero_le _, rfl, by rw [HT0.out, Int.sub_zero], Below.refl _ _⟩
      case round =>
        obtain ⟨m, hm, rfl, rfl, HR⟩ := hrel
        by_cases hlt : m < ls.length
        · have MR := M.of_block HR.out
          have HFR := Lib.hid (F.next HR.out)
          have HJR := Lib.hid (ints_below J HR.out)
          obtain ⟨gM, rfl, _⟩ := MR.form_ (by omega)
          have c1 := MR.cell hlt
          obtain ⟨j, hj, hjl, hT, hz⟩ := HTS.out m hlt
          rw [HYL.out] at hjl
          have ht0 := HTB.out m hm
          have ht1 := HTB.out (m + 1) hlt
          rw [hj] at c1
          have HTT := Lib.hid hT
          have HZ := Lib.hid hz
          have b2_ : (0 : Int) ≤ (m : Int) := by omega
          have b3_ : (m : Int) < (ls.length : Int) := by omega
          clear MR hj hz F J B M
          go_wp2_with fail
          refine (AR.out _ _ _ HFR.out HJR.out hcc j hjl).mono ?_
          rintro e ua ⟨va, rfl, A, C⟩
          obtain ⟨bA, cA, rfl, _⟩ := A.ints
          have HF : Hid (Below u21.heap.size u21 ua) := bel_tr HR.out C
          clear HR C HFR HJR c1
          go_wp2_with fail
          refine (ltotal _ _ (ar j) _ A.at_ (by rw [HAL.out]; exact nf) (fun z hz => by have := HZ.out z hz; omega)).mono ?_
          rintro e ub ⟨rfl, rfl⟩
          clear A
          rw [hT] at ht1
          generalize (ar j).sum = s at ht1 hT HTT ⊢
          go_wp2_with fail
          go_roundw
          case rel => exact ⟨m + 1, by omega, by go_num, by congr 1; have := HTT.out; omega, HF.out⟩
          case measure => simp [intOf]; omega
        · obtain rfl : m = ls.length := by omega
          have he : H fs.length - T ls.length = 0 := by rw [HEE.out]; omega
          rw [he]
          have HB := Lib.hid (bel_tr B HR.out)
          clear HR he B F J M
          go_wp2_with fail
          go_ret
          exact ⟨rfl, HB.out⟩

set_option maxRecDepth 100000 in
theorem lifted (os : Os) (started : os.Started) (H : Type) (enc : TypeId × Value → H) :
    ReturnsInHanded {} Try.checked os 8 .any (Rows.fnArriveAtSumSpec.pre6 enc Try.prog Try.f8 Rows.fnArriveAtSumRow.domain false) (Rows.fnArriveAtSumSpec.post enc Try.prog Try.f8 false true false false) := by
  refine returnsInHanded_of_change (C := Try.checked) own started (by kernel_rfl) Try.func8
    (ChangeSpec.witness6 (enc := enc) (C := Try.checked) false ⟨#[], #[.slice none 0 0], []⟩ 8 (by kernel_rfl) (by kernel_rfl) (by kernel_rfl) (by kernel_rfl)) ?_
  intro W base args ds gs before hval0 hW hcnd _
  have hval : ∀ (j : Nat) t v, Try.f8.params[j]? = some t → args[j]? = some v → Value.okWide Try.prog W .any base t v := hval0
  have hW' := hW
  obtain ⟨p, q, hA0, hV, rfl, hfz, hnd⟩ := hW
  have hA : DataW.TrodAll enc Try.prog W 0 (fun _ => true) true Try.f8.params.toList args.toList ds p := hA0
  rw [Try.params8] at hA hval
  obtain ⟨v0, vs0, e0, es0, p0, q0, hargs, rfl, rfl, h0, r0⟩ := trodAll_cons hA
  obtain ⟨rfl, rfl, rfl⟩ := trodAll_nil r0
  obtain rfl : args = #[v0] := by cases args; simp_all
  obtain ⟨rfl, rfl⟩ := trodVars_none hV
  have k0 := h0
  have lt0 : ∀ x ∈ p0, x.block < W.heap.size := by obtain ⟨m, hm⟩ := k0; exact DataW.trod_lt m _ _ _ hm
  obtain ⟨a0, len0, cap0, rfl⟩ := okWide_slice Try.underlying22 (hval 0 22 v0 rfl rfl)
  obtain ⟨z0, w0⟩ : ∃ zs, IsRow .u8 W a0 len0 cap0 zs := by
    obtain ⟨fuel, hf⟩ := h0
    rcases open_ints Try.underlying22 Try.underlying5 (by kernel_rfl) hf with ⟨hcs, _⟩ | ⟨x, l, c, zs, hcs, _, hl, hm, hz, _, hcell, hwz⟩
    · simp [Value.cells] at hcs
      obtain ⟨rfl, rfl, rfl⟩ := hcs
      exact ⟨[], .inl ⟨rfl, rfl, rfl, rfl⟩⟩
    · simp [Value.cells] at hcs
      obtain ⟨rfl, rfl, rfl⟩ := hcs
      exact ⟨zs, .inr ⟨_, rfl, hl, hm, by simpa using hz, hcell, hwz⟩⟩
  clear hA0 hval0
  refine (walk a0 len0 cap0 z0 W w0).mono fun e W' ⟨he, bel⟩ => ?_
  subst he
  exact ⟨_, rfl, _, _, _, [], _, [], hW', trodAll_mk1 (shut_bool Try.underlying4 _), (trodAll_cons_mk (Below.trod laidOut (by kernel_rfl) (of_decide_eq_true (by kernel_rfl)) k0 bel lt0) trodAll_mk0), rfl, bel.frame _, fun h => by cases h⟩

theorem over : Rows.fnArriveAtSumRow.holds Try.pinned (OpenSpec.ofChange Rows.fnArriveAtSumSpec) :=
  OpenClaim.holds_of_wide 8 Try.f8 rfl rfl rfl rfl rfl rfl rfl ⟨rfl, rfl, rfl, rfl, rfl⟩ rfl rfl rfl rfl rfl (by kernel_rfl) Try.func8 (by kernel_rfl)
    (of_decide_eq_true (by kernel_rfl)) (by unfold Func.isWrapper; first | (rw [if_pos (by decide +kernel)]; kernel_rfl) | (rw [if_neg (by decide +kernel)]; exact ⟨rfl, rfl⟩))
    (fun os started H enc _ => lifted os started H enc)

end Go.Proofs.Ytlpmeljneogpiab.fnArriveAtSum
namespace Go.Proofs.Ytlpmeljneogpiab
/-- the statement -/
theorem fnArriveAtSum_holds : Rows.FnArriveAtSumSaid := fnArriveAtSum.over
end Go.Proofs.Ytlpmeljneogpiab
