/- For every input the law answers true, and its argument reads afterwards as before: water arrives later. No condition. -/
import Derived.Test.YtlpmeljneogpiabRows
import Derived.Test.YtlpmeljneogpiabDrawNc
import Derived.Test.YtlpmeljneogpiabEqI
import Derived.Test.YtlpmeljneogpiabFlowA
import Derived.Test.YtlpmeljneogpiabFlowX
import Derived.Test.YtlpmeljneogpiabFlowS
import Derived.WalkKit
import Derived.Deep.RegionHeld3
import Derived.Deep.QuietTactic
import Derived.BigQuiet
import Derived.ProofKit
import Derived.OpenShut
import Derived.ShutString
import Derived.ChangeOld
import Derived.Below
import Derived.Lib.SmallJoins
namespace Go.Proofs.Ytlpmeljneogpiab.fnArriveAt
open Go.ChangeShapes Go.WideShapes Go.ChangeAt Go.RowKit Go.Joins
open Go.ChangeMaps (open_string shut_string)
set_option linter.unusedVariables false
set_option linter.unusedSimpArgs false

theorem own : ownKnob Try.prog.godebug = none := by kernel_rfl
theorem laidOut : laidOutB Try.prog = true := by kernel_rfl

set_option maxRecDepth 100000 in
set_option maxHeartbeats 8000000 in
theorem walk (a0 : Option Addr) (len0 cap0 : Nat) (z0 : List Int) (w : World) (w0 : IsRow .u8 w a0 len0 cap0 z0) :
    Calls Try.prog 7 #[.slice a0 len0 cap0] w fun e w' => e = .returned (.bool true) ∧ Below w.heap.size w w' := by
  by_cases big : (1048576 : Int) < (len0 : Int)
  · go_enter Try.func7, Try.ntmps7
    go_wp2
    go_ret
    exact ⟨rfl, Below.refl _ _⟩
  go_enter Try.func7, Try.ntmps7
  go_wp2_with fail
  refine (drawArriveAt a0 len0 cap0 z0 _ w0).mono ?_
  rintro e u1 ⟨b, cp, xs, at_, b2, c2, fs, rfl, l1, l10, hlc, I, i0, i1, hl, hz, J, B⟩
  clear w0 big
  have n1 : xs.length ≤ 1048576 := by omega
  have nf : fs.length ≤ 1048576 := by omega
  have OA := Lib.hid (fun (W : World) (h : IsNd W b xs) (hj : IsInts W b2 fs) => iArrive b b2 cp c2 xs at_ fs W h n1 hlc hj nf)
  have OB := Lib.hid (fun (W : World) (h : IsNd W b xs) (hj : IsInts W b2 fs) => sArrive b b2 cp c2 xs at_ fs W h n1 hj nf)
  by_cases hv : arriveV xs at_ fs = []
  · rw [hv] at OA OB
    clear hv
    go_wp2_with fail
    refine (OA.out _ I J).mono ?_
    rintro e u2 ⟨vO, rfl, O, C⟩
    obtain ⟨bO, cO, rfl, _⟩ := O.ints
    replace B := bel_tr B C
    replace I := nd_below I C
    replace J := ints_below J C
    clear C
    go_wp2_with fail
    refine (OB.out _ I J).mono ?_
    rintro e u3 ⟨vP, rfl, P, C⟩
    obtain ⟨bP, cP, rfl, _⟩ := P.ints
    replace B := bel_tr B C
    replace I := nd_below I C
    replace J := ints_below J C
    replace O := O.of_block C
    clear C
    go_wp2_with fail
    refine (eqInts _ _ _ _ [] _ O.at_ P.at_ (by simp)).mono ?_
    rintro e u4 ⟨rfl, C⟩
    replace B := bel_tr B C
    replace I := nd_below I C
    replace J := ints_below J C
    replace O := O.of_block C
    replace P := P.of_block C
    clear C
    go_wp2_with fail
    clear P
    refine (OB.out _ I J).mono ?_
    rintro e u5 ⟨vQ, rfl, Q, C⟩
    obtain ⟨bQ, cQ, rfl, _⟩ := Q.ints
    replace B := bel_tr B C
    replace I := nd_below I C
    replace J := ints_below J C
    replace O := O.of_block C
    clear C
    go_wp2_with fail
    refine (eqInts _ _ _ _ [] _ O.at_ Q.at_ (by simp)).mono ?_
    rintro e u6 ⟨rfl, C⟩
    replace B := bel_tr B C
    replace I := nd_below I C
    replace J := ints_below J C
    replace O := O.of_block C
    replace Q := Q.of_block C
    clear C
    go_wp2_with fail
    go_ret
    exact ⟨rfl, B⟩
  have hav : avB xs at_ fs = true := by
    cases c : avB xs at_ fs with
    | true => rfl
    | false => exact absurd (arrive_no c) hv
  obtain ⟨h1, h2, _, h4⟩ := av_is hav
  obtain ⟨k, rfl, hk⟩ := inN_yes h2
  rw [arrive_yes hav] at OA OB hv
  have hal := arrF_len xs k fs
  have hf0 : 0 < fs.length := by
    cases c : fs.length with
    | zero => exact absurd (List.eq_nil_of_length_eq_zero (hal.trans c)) hv
    | succ n => omega
  have nR : (arrF xs k fs).length ≤ 1048576 := by omega
  have q0 : (((arrF xs k fs).length : Int) == 0) = false := beq_eq_false_iff_ne.2 (by omega)
  have q1 : ((arrF xs k fs).length == 0) = false := beq_eq_false_iff_ne.2 (by omega)
  have hd := delay_bd h1 hk
  obtain ⟨d, hdd⟩ : ∃ d : Nat, delayF xs (k : Int) = (d : Int) := ⟨(delayF xs (k : Int)).toNat, by omega⟩
  have DA := Lib.hid (fun (W : World) (h : IsNd W b xs) => (by have := iDelay b cp xs (k : Int) W h n1 hlc; rw [delay_yes h1 h2, hdd] at this; exact this : Calls Try.prog 27 #[.slice b xs.length cp, .int .i64 (k : Int)] W fun e w' => e = .returned (.int .i64 (d : Int)) ∧ Below W.heap.size W w'))
  have QA := Lib.hid (fun (W : World) (h : IsNd W b xs) (x : Int) (h0 : 0 ≤ x ∧ x ≤ 500) => (by have := iPassed b cp xs x W h n1 hlc; rw [passed_yes (by unfold flB; rw [h1, decide_eq_true h0.1, decide_eq_true h0.2]; rfl)] at this; exact this : Calls Try.prog 15 #[.slice b xs.length cp, .int .i64 x] W (OutI W (passF xs x))))
  have HFB := Lib.hid (fun i (hi : i < fs.length) => (allB_iff fs 500).1 h4 _ (getD_mem hi))
  have HAT : Hid (∀ q, q < fs.length → (arrF xs k fs).getD q 0 = if (q : Int) < (d : Int) then 0 else (passF xs (fs.getD (q - d) 0)).getD k 0) := fun q hq => by
    rw [arrF_get xs k fs hq]; unfold arrAt; rw [hdd, show ((d : Int)).toNat = d from by omega]
  have PL := Lib.hid (fun x => passF_len xs x)
  have d240 : d ≤ 240 := by omega
  have k0 : (0 : Int) ≤ (k : Int) := by omega
  have k1 : (k : Int) < (xs.length : Int) := by omega
  have HAL := Lib.hid hal
  clear hav h1 h2 h4 hd hdd hz hal
  generalize arrF xs k fs = as_ at *
  go_wp2_with fail
  refine (OA.out _ I J).mono ?_
  rintro e u2 ⟨vO, rfl, O, C⟩
  obtain ⟨bO, cO, rfl, _⟩ := O.ints
  replace B := bel_tr B C
  replace I := nd_below I C
  replace J := ints_below J C
  clear C
  go_wp2_with fail
  refine (OB.out _ I J).mono ?_
  rintro e u3 ⟨vP, rfl, P, C⟩
  obtain ⟨bP, cP, rfl, _⟩ := P.ints
  replace B := bel_tr B C
  replace I := nd_below I C
  replace J := ints_below J C
  replace O := O.of_block C
  clear C
  go_wp2_with fail
  refine (eqInts _ _ _ _ as_ _ O.at_ P.at_ nR).mono ?_
  rintro e u4 ⟨rfl, C⟩
  replace B := bel_tr B C
  replace I := nd_below I C
  replace J := ints_below J C
  replace O := O.of_block C
  replace P := P.of_block C
  clear C
  go_wp2_with fail
  clear P
  refine (DA.out _ I).mono ?_
  rintro e u5 ⟨rfl, C⟩
  replace B := bel_tr B C
  replace I := nd_below I C
  replace J := ints_below J C
  replace O := O.of_block C
  clear C
  obtain ⟨gO, rfl, _⟩ := O.form_ (by rw [HAL.out]; exact hf0)
  have hol := HAL.out
  rw [hol] at O ⊢
  clear q0 q1 hol hv
  go_wp2_with fail
  go_loopw [8] (fun i wr => ∃ q : Nat, q ≤ fs.length ∧ i = .int .i64 q ∧ Hid (IsNd wr b xs ∧ OwnI wr _ (.slice (some ⟨gO, 0, none⟩) fs.length cO) as_ ∧ IsInts wr b2 fs ∧ Below w.heap.size w wr)) (fun i _ => fs.length - (intOf i).toNat)
  case atStart => exact ⟨0, Nat.zero_le _, rfl, I, O, J, B⟩
  case round =>
    clear I O J B
    obtain ⟨q, hq, rfl, HR⟩ := hrel
    by_cases hlt : q < fs.length
    · have c1 := HR.out.2.1.cell (j := q) (by rw [HAL.out]; exact hlt)
      rw [HAT.out q hlt] at c1
      have b2_ : (0 : Int) ≤ (q : Int) := by omega
      have b3_ : (q : Int) < (fs.length : Int) := by omega
      by_cases hqd : q < d
      · rw [if_pos (by omega)] at c1
        have e1 : decide ((q : Int) < (d : Int)) = true := decide_eq_true (by omega)
        have e2 : decide (q < d) = true := decide_eq_true hqd
        have e3 : decide ((d : Int) ≤ (q : Int)) = false := decide_eq_false (by omega)
        have e4 : decide (d ≤ q) = false := decide_eq_false (by omega)
        have HF : Hid (∀ n, IsNd (wr.drewN n) b xs ∧ OwnI (wr.drewN n) _ (.slice (some ⟨gO, 0, none⟩) fs.length cO) as_ ∧ IsInts (wr.drewN n) b2 fs ∧ Below w.heap.size w (wr.drewN n)) := fun n => ⟨HR.out.1, HR.out.2.1, HR.out.2.2.1, below_drewN HR.out.2.2.2 n⟩
        clear HR hqd
        go_wp2_with fail
        go_quiet (fail)
        go_wp2_with fail
        go_roundw
        case rel => exact ⟨q + 1, by omega, by go_num, HF.out _⟩
        case measure => simp [intOf]; omega
      · rw [if_neg (by omega)] at c1
        have e1 : decide ((q : Int) < (d : Int)) = false := decide_eq_false (by omega)
        have e2 : decide (q < d) = false := decide_eq_false hqd
        have e3 : decide ((d : Int) ≤ (q : Int)) = true := decide_eq_true (by omega)
        have e4 : decide (d ≤ q) = true := decide_eq_true (by omega)
        obtain ⟨m, hm⟩ : ∃ m : Nat, q - d = m := ⟨_, rfl⟩
        have hml : m < fs.length := by omega
        have wm : IntKind.i64.wrap ((q : Int) - (d : Int)) = (m : Int) := by rw [IntKind.wrap_i64]; omega
        rw [hm] at c1
        rcases (show IsInts wr b2 fs from HR.out.2.2.1) with rfl | ⟨gf, of_, rfl, hcf⟩
        · simp at hlt
        have c0 := hcf m hml
        have HX := Lib.hid (HFB.out m hml)
        have PLx := Lib.hid (PL.out (fs.getD m 0))
        generalize fs.getD m 0 = x at c0 c1 HX PLx
        have HQ := Lib.hid (fun (W : World) (hW : Below wr.heap.size wr W) => QA.out W (nd_below HR.out.1 hW) x HX.out)
        have b4_ : (0 : Int) ≤ (m : Int) := by omega
        have b5_ : (m : Int) < (fs.length : Int) := by omega
        obtain ⟨y, hy⟩ : ∃ y, (passF xs x).getD k 0 = y := ⟨_, rfl⟩
        rw [hy] at c1
        have HY := Lib.hid hy
        have HRR := HR
        clear HR hcf hm hqd hy
        go_wp2_with fail
        refine wp_region_held_drew (S := (fun W' => (W'.cell? ⟨gO, q, none⟩ = some (.int .i64 y) ∧ W'.cell? ⟨gf, of_ + m, none⟩ = some (.int .i64 x) ∧ W'.cell? ⟨gf, of_ + m, none⟩ = some (.int .i64 x) ∧ W'.cell? ⟨gf, of_ + m, none⟩ = some (.int .i64 x) ∧ W'.cell? ⟨gf, of_ + m, none⟩ = some (.int .i64 x) ∧ W'.cell? ⟨gf, of_ + m, none⟩ = some (.int .i64 x)) ∧ Below wr.heap.size wr W')) (by kernel_rfl) ?_ (fun hHeld => ?_)
        · exact ⟨⟨c1, c0, c0, c0, c0, c0⟩, (Below.refl _ _).drew⟩
        refine wpAnyH_take (i := 0) (oi := ?ooa0) (v := ?vva0) ?hia0 (by kernel_rfl) ?h3a0 ?h4a0 ?h5a0 ?h6a0 (by assumption) ?h8a0
        case hia0 => (simp only [List.getElem?_toArray, List.getElem?_cons_succ, List.getElem?_cons_zero]; rfl)
        case h3a0 => kernel_rfl
        case h4a0 => kernel_rfl
        case h6a0 => (refine Or.inl ⟨by rfl, ?_⟩; intro w hSw; (try dsimp only at hSw); (go_simp <;> with_reducible rfl))
        case h5a0 => exact fun _ _ _ h => h
        try simp only [Act.put, List.setIfInBounds_toArray, List.set_cons_zero, List.set_cons_succ]
        refine wpAnyH_take (i := 1) (oi := ?ooa1) (v := ?vva1) ?hia1 (by kernel_rfl) ?h3a1 ?h4a1 ?h5a1 ?h6a1 (by assumption) ?h8a1
        case hia1 => (simp only [List.getElem?_toArray, List.getElem?_cons_succ, List.getElem?_cons_zero]; rfl)
        case h3a1 => kernel_rfl
        case h4a1 => kernel_rfl
        case h6a1 => (refine Or.inl ⟨by rfl, ?_⟩; intro w hSw; (try dsimp only at hSw); (go_simp <;> with_reducible rfl))
        case h5a1 => exact fun _ _ _ h => h
        try simp only [Act.put, List.setIfInBounds_toArray, List.set_cons_zero, List.set_cons_succ]
        refine wpAnyH_take (i := 2) (oi := ?ooa2) (v := ?vva2) ?hia2 (by kernel_rfl) ?h3a2 ?h4a2 ?h5a2 ?h6a2 (by assumption) ?h8a2
        case hia2 => (simp only [List.getElem?_toArray, List.getElem?_cons_succ, List.getElem?_cons_zero]; rfl)
        case h3a2 => kernel_rfl
        case h4a2 => kernel_rfl
        case h6a2 => (refine Or.inl ⟨by rfl, ?_⟩; intro w hSw; (try dsimp only at hSw); (go_simp <;> with_reducible rfl))
        case h5a2 => exact fun _ _ _ h => h
        try simp only [Act.put, List.setIfInBounds_toArray, List.set_cons_zero, List.set_cons_succ]
        refine wpAnyH_take (i := 3) (oi := ?ooa3) (v := ?vva3) ?hia3 (by kernel_rfl) ?h3a3 ?h4a3 ?h5a3 ?h6a3 (by assumption) ?h8a3
        case hia3 => (simp only [List.getElem?_toArray, List.getElem?_cons_succ, List.getElem?_cons_zero]; rfl)
        case h3a3 => kernel_rfl
        case h4a3 => kernel_rfl
        case h6a3 => (refine Or.inl ⟨by rfl, ?_⟩; intro w hSw; (try dsimp only at hSw); (go_simp <;> with_reducible rfl))
        case h5a3 => exact fun _ _ _ h => h
        try simp only [Act.put, List.setIfInBounds_toArray, List.set_cons_zero, List.set_cons_succ]
        refine wpAnyH_take (i := 4) (oi := ?ooa4) (v := undef) ?hia4 (by kernel_rfl) ?h3a4 ?h4a4 ?h5a4 ?h6a4 (by assumption) ?h8a4
        case hia4 => (simp only [List.getElem?_toArray, List.getElem?_cons_succ, List.getElem?_cons_zero]; rfl)
        case h3a4 => kernel_rfl
        case h4a4 => kernel_rfl
        case h6a4 => exact Or.inr ⟨by rfl, rfl⟩
        case h5a4 => exact fun _ _ _ h => h
        try simp only [Act.put, List.setIfInBounds_toArray, List.set_cons_zero, List.set_cons_succ]
        refine wpAnyH_take (i := 5) (oi := ?ooa5) (v := undef) ?hia5 (by kernel_rfl) ?h3a5 ?h4a5 ?h5a5 ?h6a5 (by assumption) ?h8a5
        case hia5 => (simp only [List.getElem?_toArray, List.getElem?_cons_succ, List.getElem?_cons_zero]; rfl)
        case h3a5 => kernel_rfl
        case h4a5 => kernel_rfl
        case h6a5 => exact Or.inr ⟨by rfl, rfl⟩
        case h5a5 => exact fun _ _ _ h => h
        try simp only [Act.put, List.setIfInBounds_toArray, List.set_cons_zero, List.set_cons_succ]
        refine wpAnyH_take (i := 6) (oi := ?ooa6) (v := undef) ?hia6 (by kernel_rfl) ?h3a6 ?h4a6 ?h5a6 ?h6a6 (by assumption) ?h8a6
        case hia6 => (simp only [List.getElem?_toArray, List.getElem?_cons_succ, List.getElem?_cons_zero]; rfl)
        case h3a6 => kernel_rfl
        case h4a6 => kernel_rfl
        case h6a6 => exact Or.inr ⟨by rfl, rfl⟩
        case h5a6 => exact fun _ _ _ h => h
        try simp only [Act.put, List.setIfInBounds_toArray, List.set_cons_zero, List.set_cons_succ]
        refine wpAnyH_take (i := 7) (oi := ?ooa7) (v := undef) ?hia7 (by kernel_rfl) ?h3a7 ?h4a7 ?h5a7 ?h6a7 (by assumption) ?h8a7
        case hia7 => (simp only [List.getElem?_toArray, List.getElem?_cons_succ, List.getElem?_cons_zero]; rfl)
        case h3a7 => kernel_rfl
        case h4a7 => kernel_rfl
        case h6a7 => exact Or.inr ⟨by rfl, rfl⟩
        case h5a7 => exact fun _ _ _ h => h
        try simp only [Act.put, List.setIfInBounds_toArray, List.set_cons_zero, List.set_cons_succ]
        refine wpAnyH_take (i := 8) (oi := ?ooa8) (v := undef) ?hia8 (by kernel_rfl) ?h3a8 ?h4a8 ?h5a8 ?h6a8 (by assumption) ?h8a8
        case hia8 => (simp only [List.getElem?_toArray, List.getElem?_cons_succ, List.getElem?_cons_zero]; rfl)
        case h3a8 => kernel_rfl
        case h4a8 => kernel_rfl
        case h6a8 => exact Or.inr ⟨by rfl, rfl⟩
        case h5a8 => exact fun _ _ _ h => h
        try simp only [Act.put, List.setIfInBounds_toArray, List.set_cons_zero, List.set_cons_succ]
        refine wpAnyH_take (i := 9) (oi := ?ooa9) (v := ?vva9) ?hia9 (by kernel_rfl) ?h3a9 ?h4a9 ?h5a9 ?h6a9 (by assumption) ?h8a9
        case hia9 => (simp only [List.getElem?_toArray, List.getElem?_cons_succ, List.getElem?_cons_zero]; rfl)
        case h3a9 => kernel_rfl
        case h4a9 => kernel_rfl
        case h6a9 => (refine Or.inl ⟨by rfl, ?_⟩; intro w hSw; (try dsimp only at hSw); (go_simp <;> with_reducible rfl))
        case h5a9 => exact fun _ _ _ h => h
        try simp only [Act.put, List.setIfInBounds_toArray, List.set_cons_zero, List.set_cons_succ]
        refine wpAnyH_take (i := 10) (oi := ?ooa10) (v := ?vva10) ?hia10 (by kernel_rfl) ?h3a10 ?h4a10 ?h5a10 ?h6a10 (by assumption) ?h8a10
        case hia10 => (simp only [List.getElem?_toArray, List.getElem?_cons_succ, List.getElem?_cons_zero]; rfl)
        case h3a10 => kernel_rfl
        case h4a10 => kernel_rfl
        case h6a10 => (refine Or.inl ⟨by rfl, ?_⟩; intro w hSw; (try dsimp only at hSw); (go_simp <;> with_reducible rfl))
        case h5a10 => exact fun _ _ _ h => h
        try simp only [Act.put, List.setIfInBounds_toArray, List.set_cons_zero, List.set_cons_succ]
        refine wpAnyH_take (i := 11) (oi := ?ooa11) (v := ?vva11) ?hia11 (by kernel_rfl) ?h3a11 ?h4a11 ?h5a11 ?h6a11 (by assumption) ?h8a11
        case hia11 => (simp only [List.getElem?_toArray, List.getElem?_cons_succ, List.getElem?_cons_zero]; rfl)
        case h3a11 => kernel_rfl
        case h4a11 => kernel_rfl
        case h6a11 => (refine Or.inl ⟨by rfl, ?_⟩; intro w hSw; (try dsimp only at hSw); (go_simp <;> with_reducible rfl))
        case h5a11 => exact fun _ _ _ h => h
        try simp only [Act.put, List.setIfInBounds_toArray, List.set_cons_zero, List.set_cons_succ]
        refine wpAnyH_take (i := 12) (oi := ?ooa12) (v := ?vva12) ?hia12 (by kernel_rfl) ?h3a12 ?h4a12 ?h5a12 ?h6a12 (by assumption) ?h8a12
        case hia12 => (simp only [List.getElem?_toArray, List.getElem?_cons_succ, List.getElem?_cons_zero]; rfl)
        case h3a12 => kernel_rfl
        case h4a12 => kernel_rfl
        case h6a12 => (refine Or.inl ⟨by rfl, ?_⟩; intro w hSw; (try dsimp only at hSw); (go_simp <;> with_reducible rfl))
        case h5a12 => exact fun _ _ _ h => h
        try simp only [Act.put, List.setIfInBounds_toArray, List.set_cons_zero, List.set_cons_succ]
        refine wpAnyH_take (i := 13) (oi := ?ooa13) (v := ?vva13) ?hia13 (by kernel_rfl) ?h3a13 ?h4a13 ?h5a13 ?h6a13 (by assumption) ?h8a13
        case hia13 => (simp only [List.getElem?_toArray, List.getElem?_cons_succ, List.getElem?_cons_zero]; rfl)
        case h3a13 => kernel_rfl
        case h4a13 => kernel_rfl
        case h6a13 => (refine Or.inl ⟨by rfl, ?_⟩; intro w hSw; (try dsimp only at hSw); (go_simp <;> with_reducible rfl))
        case h5a13 => exact fun _ _ _ h => h
        try simp only [Act.put, List.setIfInBounds_toArray, List.set_cons_zero, List.set_cons_succ]
        refine wpAnyH_take (i := 14) (oi := ?ooa14) (v := ?vva14) ?hia14 (by kernel_rfl) ?h3a14 ?h4a14 ?h5a14 ?h6a14 (by assumption) ?h8a14
        case hia14 => (simp only [List.getElem?_toArray, List.getElem?_cons_succ, List.getElem?_cons_zero]; rfl)
        case h3a14 => kernel_rfl
        case h4a14 => kernel_rfl
        case h6a14 => (refine Or.inl ⟨by rfl, ?_⟩; intro w hSw; (try dsimp only at hSw); (go_simp <;> with_reducible rfl))
        case h5a14 => exact fun _ _ _ h => h
        try simp only [Act.put, List.setIfInBounds_toArray, List.set_cons_zero, List.set_cons_succ]
        refine wpAnyH_take (i := 15) (oi := ?ooa15) (v := ?vva15) ?hia15 (by kernel_rfl) ?h3a15 ?h4a15 ?h5a15 ?h6a15 (by assumption) ?h8a15
        case hia15 => (simp only [List.getElem?_toArray, List.getElem?_cons_succ, List.getElem?_cons_zero]; rfl)
        case h3a15 => kernel_rfl
        case h4a15 => kernel_rfl
        case h6a15 => (refine Or.inl ⟨by rfl, ?_⟩; intro w hSw; (try dsimp only at hSw); (go_simp <;> with_reducible rfl))
        case h5a15 => exact fun _ _ _ h => h
        try simp only [Act.put, List.setIfInBounds_toArray, List.set_cons_zero, List.set_cons_succ]
        refine wpAnyH_take (i := 16) (oi := ?ooa16) (v := ?vva16) ?hia16 (by kernel_rfl) ?h3a16 ?h4a16 ?h5a16 ?h6a16 (by assumption) ?h8a16
        case hia16 => (simp only [List.getElem?_toArray, List.getElem?_cons_succ, List.getElem?_cons_zero]; rfl)
        case h3a16 => kernel_rfl
        case h4a16 => kernel_rfl
        case h6a16 => (refine Or.inl ⟨by rfl, ?_⟩; intro w hSw; (try dsimp only at hSw); (go_simp <;> with_reducible rfl))
        case h5a16 => exact fun _ _ _ h => h
        try simp only [Act.put, List.setIfInBounds_toArray, List.set_cons_zero, List.set_cons_succ]
        refine wpAnyH_take (i := 17) (oi := ?ooa17) (v := ?vva17) ?hia17 (by kernel_rfl) ?h3a17 ?h4a17 ?h5a17 ?h6a17 (by assumption) ?h8a17
        case hia17 => (simp only [List.getElem?_toArray, List.getElem?_cons_succ, List.getElem?_cons_zero]; rfl)
        case h3a17 => kernel_rfl
        case h4a17 => kernel_rfl
        case h6a17 => (refine Or.inl ⟨by rfl, ?_⟩; intro w hSw; (try dsimp only at hSw); (go_simp <;> with_reducible rfl))
        case h5a17 => exact fun _ _ _ h => h
        try simp only [Act.put, List.setIfInBounds_toArray, List.set_cons_zero, List.set_cons_succ]
        refine wpAnyH_take (i := 18) (oi := ?ooa18) (v := ?vva18) ?hia18 (by kernel_rfl) ?h3a18 ?h4a18 ?h5a18 ?h6a18 (by assumption) ?h8a18
        case hia18 => (simp only [List.getElem?_toArray, List.getElem?_cons_succ, List.getElem?_cons_zero]; rfl)
        case h3a18 => kernel_rfl
        case h4a18 => kernel_rfl
        case h6a18 => (refine Or.inl ⟨by rfl, ?_⟩; intro w hSw; (try dsimp only at hSw); (go_simp <;> with_reducible rfl))
        case h5a18 => exact fun _ _ _ h => h
        try simp only [Act.put, List.setIfInBounds_toArray, List.set_cons_zero, List.set_cons_succ]
        refine wpAnyH_take (i := 19) (oi := ?ooa19) (v := ?vva19) ?hia19 (by kernel_rfl) ?h3a19 ?h4a19 ?h5a19 ?h6a19 (by assumption) ?h8a19
        case hia19 => (simp only [List.getElem?_toArray, List.getElem?_cons_succ, List.getElem?_cons_zero]; rfl)
        case h3a19 => kernel_rfl
        case h4a19 => kernel_rfl
        case h6a19 => (refine Or.inl ⟨by rfl, ?_⟩; intro w hSw; (try dsimp only at hSw); (go_simp <;> with_reducible rfl))
        case h5a19 => exact fun _ _ _ h => h
        try simp only [Act.put, List.setIfInBounds_toArray, List.set_cons_zero, List.set_cons_succ]
        refine wpAnyH_take (i := 20) (oi := ?ooa20) (v := ?vva20) ?hia20 (by kernel_rfl) ?h3a20 ?h4a20 ?h5a20 ?h6a20 (by assumption) ?h8a20
        case hia20 => (simp only [List.getElem?_toArray, List.getElem?_cons_succ, List.getElem?_cons_zero]; rfl)
        case h3a20 => kernel_rfl
        case h4a20 => kernel_rfl
        case h6a20 => (refine Or.inl ⟨by rfl, ?_⟩; intro w hSw; (try dsimp only at hSw); (go_simp <;> with_reducible rfl))
        case h5a20 => exact fun _ _ _ h => h
        try simp only [Act.put, List.setIfInBounds_toArray, List.set_cons_zero, List.set_cons_succ]
        refine wpAnyH_take (i := 21) (oi := ?ooa21) (v := ?vva21) ?hia21 (by kernel_rfl) ?h3a21 ?h4a21 ?h5a21 ?h6a21 (by assumption) ?h8a21
        case hia21 => (simp only [List.getElem?_toArray, List.getElem?_cons_succ, List.getElem?_cons_zero]; rfl)
        case h3a21 => kernel_rfl
        case h4a21 => kernel_rfl
        case h6a21 => (refine Or.inl ⟨by rfl, ?_⟩; intro w hSw; (try dsimp only at hSw); (go_simp <;> with_reducible rfl))
        case h5a21 => exact fun _ _ _ h => h
        try simp only [Act.put, List.setIfInBounds_toArray, List.set_cons_zero, List.set_cons_succ]
        refine wpAnyH_take (i := 22) (oi := ?ooa22) (v := ?vva22) ?hia22 (by kernel_rfl) ?h3a22 ?h4a22 ?h5a22 ?h6a22 (by assumption) ?h8a22
        case hia22 => (simp only [List.getElem?_toArray, List.getElem?_cons_succ, List.getElem?_cons_zero]; rfl)
        case h3a22 => kernel_rfl
        case h4a22 => kernel_rfl
        case h6a22 => (refine Or.inl ⟨by rfl, ?_⟩; intro w hSw; (try dsimp only at hSw); (go_simp <;> with_reducible rfl))
        case h5a22 => exact fun _ _ _ h => h
        try simp only [Act.put, List.setIfInBounds_toArray, List.set_cons_zero, List.set_cons_succ]
        refine wpAnyH_take (i := 23) (oi := ?ooa23) (v := ?vva23) ?hia23 (by kernel_rfl) ?h3a23 ?h4a23 ?h5a23 ?h6a23 (by assumption) ?h8a23
        case hia23 => (simp only [List.getElem?_toArray, List.getElem?_cons_succ, List.getElem?_cons_zero]; rfl)
        case h3a23 => kernel_rfl
        case h4a23 => kernel_rfl
        case h6a23 => (refine Or.inl ⟨by rfl, ?_⟩; intro w hSw; (try dsimp only at hSw); (go_simp <;> with_reducible rfl))
        case h5a23 => exact fun _ _ _ h => h
        try simp only [Act.put, List.setIfInBounds_toArray, List.set_cons_zero, List.set_cons_succ]
        refine wpAnyH_take (i := 24) (oi := ?ooa24) (v := ?vva24) ?hia24 (by kernel_rfl) ?h3a24 ?h4a24 ?h5a24 ?h6a24 (by assumption) ?h8a24
        case hia24 => (simp only [List.getElem?_toArray, List.getElem?_cons_succ, List.getElem?_cons_zero]; rfl)
        case h3a24 => kernel_rfl
        case h4a24 => kernel_rfl
        case h6a24 => (refine Or.inl ⟨by rfl, ?_⟩; intro w hSw; (try dsimp only at hSw); (go_simp <;> with_reducible rfl))
        case h5a24 => exact fun _ _ _ h => h
        try simp only [Act.put, List.setIfInBounds_toArray, List.set_cons_zero, List.set_cons_succ]
        refine wpAnyH_take (i := 25) (oi := ?ooa25) (v := ?vva25) ?hia25 (by kernel_rfl) ?h3a25 ?h4a25 ?h5a25 ?h6a25 (by assumption) ?h8a25
        case hia25 => (simp only [List.getElem?_toArray, List.getElem?_cons_succ, List.getElem?_cons_zero]; rfl)
        case h3a25 => kernel_rfl
        case h4a25 => kernel_rfl
        case h6a25 => (refine Or.inl ⟨by rfl, ?_⟩; intro w hSw; (try dsimp only at hSw); (go_simp <;> with_reducible rfl))
        case h5a25 => exact fun _ _ _ h => h
        try simp only [Act.put, List.setIfInBounds_toArray, List.set_cons_zero, List.set_cons_succ]
        refine wpAnyH_take (i := 27) (oi := ?ooa27) (v := ?vva27) ?hia27 (by kernel_rfl) ?h3a27 ?h4a27 ?h5a27 ?h6a27 (by assumption) ?h8a27
        case hia27 => (simp only [List.getElem?_toArray, List.getElem?_cons_succ, List.getElem?_cons_zero]; rfl)
        case h3a27 => kernel_rfl
        case h4a27 => kernel_rfl
        case h6a27 => (refine Or.inl ⟨by rfl, ?_⟩; intro w hSw; (try dsimp only at hSw); (go_simp <;> with_reducible rfl))
        case h5a27 => exact fun _ _ _ h => h
        try simp only [Act.put, List.setIfInBounds_toArray, List.set_cons_zero, List.set_cons_succ]
        refine wpAnyH_ready (rs := [26]) (by kernel_rfl) (by simp) (AllReadyH.cons (o := ?ooa26) ?hia26 (fun K hK => ?hka26) AllReadyH.nil)
        rotate_left
        case hia26 => (simp only [List.getElem?_toArray, List.getElem?_cons_succ, List.getElem?_cons_zero]; rfl)
        (rw [if_pos (by rfl)]; go_simp; refine (HQ.out _ hHeld.2).mono ?_; rintro e wq2 ⟨vk, rfl, hKd, hb⟩; obtain ⟨kb, kc, rfl, _⟩ := hKd.ints; obtain ⟨gp, rfl, _⟩ := hKd.form_ (by rw [PLx.out]; omega); rw [PLx.out] at hKd ⊢; have kp := hKd.cell (j := k) (by rw [PLx.out]; omega); rw [HY.out] at kp; go_wp2_with fail; refine hK.out _ _ (kp6 hb hHeld) (fun hHeld => ?_); clear hK K)
        try simp only [Act.put, List.setIfInBounds_toArray, List.set_cons_zero, List.set_cons_succ]
        refine wpAnyH_take (i := 28) (oi := ?ooa28) (v := ?vva28) ?hia28 (by kernel_rfl) ?h3a28 ?h4a28 ?h5a28 ?h6a28 (by assumption) ?h8a28
        case hia28 => (simp only [List.getElem?_toArray, List.getElem?_cons_succ, List.getElem?_cons_zero]; rfl)
        case h3a28 => kernel_rfl
        case h4a28 => kernel_rfl
        case h6a28 => (refine Or.inl ⟨by rfl, ?_⟩; intro w hSw; (try dsimp only at hSw); (go_simp <;> with_reducible rfl))
        case h5a28 => exact fun _ _ _ h => h
        try simp only [Act.put, List.setIfInBounds_toArray, List.set_cons_zero, List.set_cons_succ]
        refine wpAnyH_ready (rs := [29]) (by kernel_rfl) (by simp) (AllReadyH.cons (o := ?ooa29) ?hia29 (fun K hK => ?hka29) AllReadyH.nil)
        rotate_left
        case hia29 => (simp only [List.getElem?_toArray, List.getElem?_cons_succ, List.getElem?_cons_zero]; rfl)
        (rw [if_pos (by rfl)]; go_simp; refine hK.out _ _ (hHeld) (fun hHeld => ?_); clear hK K)
        try simp only [Act.put, List.setIfInBounds_toArray, List.set_cons_zero, List.set_cons_succ]
        refine wpAnyH_take (i := 30) (oi := ?ooa30) (v := ?vva30) ?hia30 (by kernel_rfl) ?h3a30 ?h4a30 ?h5a30 ?h6a30 (by assumption) ?h8a30
        case hia30 => (simp only [List.getElem?_toArray, List.getElem?_cons_succ, List.getElem?_cons_zero]; rfl)
        case h3a30 => kernel_rfl
        case h4a30 => kernel_rfl
        case h6a30 => (refine Or.inl ⟨by rfl, ?_⟩; intro w hSw; (try dsimp only at hSw); (go_simp <;> with_reducible rfl))
        case h5a30 => exact fun _ _ _ h => h
        try simp only [Act.put, List.setIfInBounds_toArray, List.set_cons_zero, List.set_cons_succ]
        refine wpAnyH_take (i := 31) (oi := ?ooa31) (v := ?vva31) ?hia31 (by kernel_rfl) ?h3a31 ?h4a31 ?h5a31 ?h6a31 (by assumption) ?h8a31
        case hia31 => (simp only [List.getElem?_toArray, List.getElem?_cons_succ, List.getElem?_cons_zero]; rfl)
        case h3a31 => kernel_rfl
        case h4a31 => kernel_rfl
        case h6a31 => (refine Or.inl ⟨by rfl, ?_⟩; intro w hSw; (try dsimp only at hSw); (go_simp <;> with_reducible rfl))
        case h5a31 => exact fun _ _ _ h => h
        try simp only [Act.put, List.setIfInBounds_toArray, List.set_cons_zero, List.set_cons_succ]
        refine wpAnyH_take (i := 32) (oi := ?ooa32) (v := ?vva32) ?hia32 (by kernel_rfl) ?h3a32 ?h4a32 ?h5a32 ?h6a32 (by assumption) ?h8a32
        case hia32 => (simp only [List.getElem?_toArray, List.getElem?_cons_succ, List.getElem?_cons_zero]; rfl)
        case h3a32 => kernel_rfl
        case h4a32 => kernel_rfl
        case h6a32 => (refine Or.inl ⟨by rfl, ?_⟩; intro w hSw; (try dsimp only at hSw); (go_simp <;> with_reducible rfl))
        case h5a32 => exact fun _ _ _ h => h
        try simp only [Act.put, List.setIfInBounds_toArray, List.set_cons_zero, List.set_cons_succ]
        refine wpAnyH_done (by kernel_rfl) ?_ _
        have HF : Hid (IsNd wq2 b xs ∧ OwnI wq2 _ (.slice (some ⟨gO, 0, none⟩) fs.length cO) as_ ∧ IsInts wq2 (some ⟨gf, of_, none⟩) fs ∧ Below w.heap.size w wq2) := ⟨nd_below HRR.out.1 hHeld.2, HRR.out.2.1.of_block hHeld.2, ints_below HRR.out.2.2.1 hHeld.2, bel_tr HRR.out.2.2.2 hHeld.2⟩
        clear hHeld hb hKd kp HRR
        go_wp2_with fail
        go_roundw
        case rel => exact ⟨q + 1, by omega, by go_num, HF.out⟩
        case measure => simp [intOf]; omega
    · have HB := Lib.hid HR.out.2.2.2
      clear HR
      go_wp2_with fail
      go_ret
      exact ⟨rfl, HB.out⟩

set_option maxRecDepth 100000 in
theorem lifted (os : Os) (started : os.Started) (H : Type) (enc : TypeId × Value → H) :
    ReturnsInHanded {} Try.checked os 7 .any (Rows.fnArriveAtSpec.pre6 enc Try.prog Try.f7 Rows.fnArriveAtRow.domain false) (Rows.fnArriveAtSpec.post enc Try.prog Try.f7 false true false false) := by
  refine returnsInHanded_of_change (C := Try.checked) own started (by kernel_rfl) Try.func7
    (ChangeSpec.witness6 (enc := enc) (C := Try.checked) false ⟨#[], #[.slice none 0 0], []⟩ 8 (by kernel_rfl) (by kernel_rfl) (by kernel_rfl) (by kernel_rfl)) ?_
  intro W base args ds gs before hval0 hW hcnd _
  have hval : ∀ (j : Nat) t v, Try.f7.params[j]? = some t → args[j]? = some v → Value.okWide Try.prog W .any base t v := hval0
  have hW' := hW
  obtain ⟨p, q, hA0, hV, rfl, hfz, hnd⟩ := hW
  have hA : DataW.TrodAll enc Try.prog W 0 (fun _ => true) true Try.f7.params.toList args.toList ds p := hA0
  rw [Try.params7] at hA hval
  obtain ⟨v0, vs0, e0, es0, p0, q0, hargs, rfl, rfl, h0, r0⟩ := trodAll_cons hA
  obtain ⟨rfl, rfl, rfl⟩ := trodAll_nil r0
  obtain rfl : args = #[v0] := by cases args; simp_all
  obtain ⟨rfl, rfl⟩ := trodVars_none hV
  have k0 := h0
  have lt0 : ∀ x ∈ p0, x.block < W.heap.size := by obtain ⟨m, hm⟩ := k0; exact DataW.trod_lt m _ _ _ hm
  obtain ⟨a0, len0, cap0, rfl⟩ := okWide_slice Try.underlying22 (hval 0 22 v0 rfl rfl)
  obtain ⟨z0, w0⟩ : ∃ zs, IsRow .u8 W a0 len0 cap0 zs := by
    obtain ⟨fuel, hf⟩ := h0
    rcases open_ints Try.underlying22 Try.underlying5 (by kernel_rfl) hf with ⟨hcs, _⟩ | ⟨x, l, c, zs, hcs, _, hl, hm, hz, _, hcell, hwz⟩
    · simp [Value.cells] at hcs
      obtain ⟨rfl, rfl, rfl⟩ := hcs
      exact ⟨[], .inl ⟨rfl, rfl, rfl, rfl⟩⟩
    · simp [Value.cells] at hcs
      obtain ⟨rfl, rfl, rfl⟩ := hcs
      exact ⟨zs, .inr ⟨_, rfl, hl, hm, by simpa using hz, hcell, hwz⟩⟩
  clear hA0 hval0
  refine (walk a0 len0 cap0 z0 W w0).mono fun e W' ⟨he, bel⟩ => ?_
  subst he
  exact ⟨_, rfl, _, _, _, [], _, [], hW', trodAll_mk1 (shut_bool Try.underlying4 _), (trodAll_cons_mk (Below.trod laidOut (by kernel_rfl) (of_decide_eq_true (by kernel_rfl)) k0 bel lt0) trodAll_mk0), rfl, bel.frame _, fun h => by cases h⟩

theorem over : Rows.fnArriveAtRow.holds Try.pinned (OpenSpec.ofChange Rows.fnArriveAtSpec) :=
  OpenClaim.holds_of_wide 7 Try.f7 rfl rfl rfl rfl rfl rfl rfl ⟨rfl, rfl, rfl, rfl, rfl⟩ rfl rfl rfl rfl rfl (by kernel_rfl) Try.func7 (by kernel_rfl)
    (of_decide_eq_true (by kernel_rfl)) (by unfold Func.isWrapper; first | (rw [if_pos (by decide +kernel)]; kernel_rfl) | (rw [if_neg (by decide +kernel)]; exact ⟨rfl, rfl⟩))
    (fun os started H enc _ => lifted os started H enc)

end Go.Proofs.Ytlpmeljneogpiab.fnArriveAt
namespace Go.Proofs.Ytlpmeljneogpiab
/-- the statement -/
theorem fnArriveAt_holds : Rows.FnArriveAtSaid := fnArriveAt.over
end Go.Proofs.Ytlpmeljneogpiab
