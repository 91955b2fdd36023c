/- For every input the law answers true, and its argument reads afterwards as before: paths begin at the spring. No condition. -/
import Derived.Test.YtbmpcggdkeakeaaRows
import Derived.Test.YtbmpcggdkeakeaaDrawNb
import Derived.Test.YtbmpcggdkeakeaaNodQ
import Derived.Test.YtbmpcggdkeakeaaLawIn
import Derived.Test.YtbmpcggdkeakeaaEqI
import Derived.Test.YtbmpcggdkeakeaaOwnM
import Derived.Test.YtbmpcggdkeakeaaNodT
import Derived.Test.YtbmpcggdkeakeaaFlowS
import Derived.WalkKit
import Derived.Deep.RegionHeld3
import Derived.Deep.QuietTactic
import Derived.BigQuiet
import Derived.ProofKit
import Derived.OpenShut
import Derived.ShutString
import Derived.ChangeOld
import Derived.Below
import Derived.Lib.SmallJoins
namespace Go.Proofs.Ytbmpcggdkeakeaa.fnPathTo
open Go.ChangeShapes Go.WideShapes Go.ChangeAt Go.RowKit Go.Joins
open Go.ChangeMaps (open_string shut_string)
set_option linter.unusedVariables false
set_option linter.unusedSimpArgs false

theorem own : ownKnob Try.prog.godebug = none := by kernel_rfl
theorem laidOut : laidOutB Try.prog = true := by kernel_rfl

set_option maxRecDepth 100000 in
set_option maxHeartbeats 8000000 in
theorem walk (a0 : Option Addr) (len0 cap0 : Nat) (z0 : List Int) (w : World) (w0 : IsRow .u8 w a0 len0 cap0 z0) :
    Calls Try.prog 5 #[.slice a0 len0 cap0] w fun e w' => e = .returned (.bool true) ∧ Below w.heap.size w w' := by
  by_cases big : (1048576 : Int) < (len0 : Int)
  · go_enter Try.func5, Try.ntmps5
    go_wp2
    go_ret
    exact ⟨rfl, Below.refl _ _⟩
  go_enter Try.func5, Try.ntmps5
  go_wp2_with fail
  refine (drawPathTo a0 len0 cap0 z0 _ w0).mono ?_
  rintro e u1 ⟨b, cp, xs, at_, rfl, l1, l10, hlc, I, i0, i1, B⟩
  clear w0 big
  have n1 : xs.length ≤ 1048576 := by omega
  have PI := Lib.hid (fun (W : World) (h : IsNd W b xs) (i : Int) => iPath b cp xs i W h n1 hlc)
  have PS := Lib.hid (fun (W : World) (h : IsNd W b xs) (i : Int) => sPath b cp xs i W h n1)
  have KI := Lib.hid (fun (W : World) (h : IsNd W b xs) (i : Int) => iKids b cp xs i W h n1 hlc)
  have DI := Lib.hid (fun (W : World) (h : IsNd W b xs) (i : Int) => iDelay b cp xs i W h n1 hlc)
  have OA := Lib.hid (fun W h => PI.out W h at_)
  have OB := Lib.hid (fun W h => PS.out W h at_)
  by_cases hv : (vnB xs && inN xs.length at_) = true
  rotate_left
  · have hv2 : pathV xs at_ = [] := by unfold pathV; rw [if_neg hv]
    rw [hv2] at OA OB
    clear hv hv2 PI PS KI DI
    go_wp2_with fail
    refine (OA.out _ I).mono ?_
    rintro e u2 ⟨vO, rfl, O, C⟩
    obtain ⟨bO, cO, rfl, _⟩ := O.ints
    replace B := bel_tr B C
    replace I := nd_below I C
    clear C
    go_wp2_with fail
    refine (OB.out _ I).mono ?_
    rintro e u3 ⟨vP, rfl, P, C⟩
    obtain ⟨bP, cP, rfl, _⟩ := P.ints
    replace B := bel_tr B C
    replace I := nd_below I C
    replace O := O.of_block C
    clear C
    go_wp2_with fail
    refine (eqInts _ _ _ _ [] _ O.at_ P.at_ (by simp)).mono ?_
    rintro e u4 ⟨rfl, C⟩
    replace B := bel_tr B C
    replace I := nd_below I C
    replace O := O.of_block C
    replace P := P.of_block C
    clear C
    go_wp2_with fail
    clear P
    refine (OB.out _ I).mono ?_
    rintro e u5 ⟨vQ, rfl, Q, C⟩
    obtain ⟨bQ, cQ, rfl, _⟩ := Q.ints
    replace B := bel_tr B C
    replace I := nd_below I C
    replace O := O.of_block C
    clear C
    go_wp2_with fail
    refine (eqInts _ _ _ _ [] _ O.at_ Q.at_ (by simp)).mono ?_
    rintro e u6 ⟨rfl, C⟩
    replace B := bel_tr B C
    replace I := nd_below I C
    replace O := O.of_block C
    replace Q := Q.of_block C
    clear C
    go_wp2_with fail
    go_ret
    exact ⟨rfl, B⟩
  rw [Bool.and_eq_true] at hv
  obtain ⟨h1, h2⟩ := hv
  obtain ⟨k, rfl, hk⟩ := inN_yes h2
  rw [path_yes h1 h2] at OA OB
  have hpl := pathTo_len xs xs.length (k : Int)
  change (pathF xs (k : Int)).length ≤ xs.length at hpl
  obtain ⟨hp0, hpe⟩ := path_last h1 hk
  have hpf := path_first h1 k hk
  have HM := Lib.hid (fun z (hz : z ∈ pathF xs (k : Int)) => pathTo_mem h1 xs.length (k : Int) (by omega) z hz)
  have HN := Lib.hid (path_next h1 k hk)
  have HDB := Lib.hid (fun l hl => dlySum_bd h1 l hl)
  have HV := Lib.hid h1
  have DA := Lib.hid (fun W h => DI.out W h (k : Int))
  rw [delay_yes h1 h2] at DA
  have HDE : Hid (delayF xs (k : Int) = dlySum xs (pathF xs (k : Int))) := rfl
  have KA := Lib.hid (fun (W : World) (h : IsNd W b xs) (m : Nat) (hm : m < xs.length) => (by have := KI.out W h (m : Int); rw [kids_yes h1 (inN_is hm)] at this; exact this : Calls Try.prog 22 #[.slice b xs.length cp, .int .i64 (m : Int)] W (OutI W (kidsF xs (m : Int)))))
  have nR : (pathF xs (k : Int)).length ≤ 1048576 := by omega
  generalize pathF xs (k : Int) = ps at *
  generalize delayF xs (k : Int) = D at *
  have q0 : ((ps.length : Int) == 0) = false := beq_eq_false_iff_ne.2 (by omega)
  have q1 : (ps.length == 0) = false := beq_eq_false_iff_ne.2 (by omega)
  have q2 : ¬ ps = [] := fun e => by rw [e] at hp0; simp at hp0
  have HPE := Lib.hid (And.intro hpe hpf)
  rcases (show IsNd u1 b xs from I) with rfl | ⟨g, o, rfl, _⟩
  · simp at l1
  clear h1 h2 PI PS KI DI hk hpe hpf
  go_wp2_with fail
  refine (OA.out _ I).mono ?_
  rintro e u2 ⟨vO, rfl, O, C⟩
  obtain ⟨bO, cO, rfl, _⟩ := O.ints
  replace B := bel_tr B C
  replace I := nd_below I C
  clear C
  go_wp2_with fail
  refine (OB.out _ I).mono ?_
  rintro e u3 ⟨vP, rfl, P, C⟩
  obtain ⟨bP, cP, rfl, _⟩ := P.ints
  replace B := bel_tr B C
  replace I := nd_below I C
  replace O := O.of_block C
  clear C
  go_wp2_with fail
  refine (eqInts _ _ _ _ ps _ O.at_ P.at_ nR).mono ?_
  rintro e u4 ⟨rfl, C⟩
  replace B := bel_tr B C
  replace I := nd_below I C
  replace O := O.of_block C
  replace P := P.of_block C
  clear C
  go_wp2_with fail
  clear P
  obtain ⟨gO, rfl, _⟩ := O.form_ hp0
  clear q0 q1 q2
  go_loopw [6, 7] (fun n i wr => ∃ q : Nat, q ≤ ps.length ∧ i = .int .i64 q ∧ n = .int .i64 (dlySum xs (ps.take q)) ∧ Hid (IsNd wr (some ⟨g, o, none⟩) xs ∧ OwnI wr _ (.slice (some ⟨gO, 0, none⟩) ps.length cO) ps ∧ Below w.heap.size w wr)) (fun _ i _ => ps.length - (intOf i).toNat)
  case atStart => exact ⟨0, Nat.zero_le _, rfl, rfl, I, O, B⟩
  case round =>
    clear I O B
    obtain ⟨q, hq, rfl, rfl, HR⟩ := hrel
    obtain ⟨s0, s1⟩ := HDB.out (ps.take q) (fun z hz => HM.out z (List.mem_of_mem_take hz))
    rw [List.length_take, Nat.min_eq_left hq] at s1
    by_cases hlt : q < ps.length
    · have c1 := HR.out.2.1.cell hlt
      obtain ⟨m, hm, hml⟩ := HM.out _ (getD_mem hlt)
      have ht : dlySum xs (ps.take (q + 1)) = dlySum xs (ps.take q) + (xs.getD m nd0).2.2.2.2 := by
        rw [take_snocD ps hlt 0, dlySum_append, hm]
        show _ + (dly xs (m : Int) + 0) = _
        have : dly xs (m : Int) = (xs.getD m nd0).2.2.2.2 := rfl
        rw [this]; omega
      rw [hm] at c1
      have d4 : wr.cell? ⟨g, o + m * 5 + 4, none⟩ = some (.int .i64 (xs.getD m nd0).2.2.2.2) := (by
        rcases HR.out.1 with rfl | ⟨g', o', e, hc⟩
        · simp at l1
        · injection e with e; injection e with e1 e2 e3; subst e1 e2; exact (hc m hml).2.2.2.2)
      have hdd := (vn_at HV.out hml).2.2.2
      generalize (xs.getD m nd0).2.2.2.2 = d at d4 hdd ht
      generalize dlySum xs (ps.take q) = t at s0 s1 ht
      have HT := Lib.hid ht
      have HMM := Lib.hid hm
      have b0 : (0 : Int) ≤ (m : Int) := by omega
      have b1 : (m : Int) < (xs.length : Int) := by omega
      have b2 : (0 : Int) ≤ (q : Int) := by omega
      have b3 : (q : Int) < (ps.length : Int) := by omega
      have t2 : t ≤ 1000 := by omega
      clear ht hm s1
      by_cases hq0 : q = 0
      · have e1 : decide (0 < (q : Int)) = false := decide_eq_false (by omega)
        have e2 : decide (0 < q) = false := decide_eq_false (by omega)
        have HF : Hid (∀ n, IsNd (wr.drewN n) (some ⟨g, o, none⟩) xs ∧ OwnI (wr.drewN n) _ (.slice (some ⟨gO, 0, none⟩) ps.length cO) ps ∧ Below w.heap.size w (wr.drewN n)) := fun n => ⟨HR.out.1, HR.out.2.1, below_drewN HR.out.2.2 n⟩
        clear HR hq0
        go_wp2_with fail
        go_quiet (fail)
        go_wp2_with fail
        go_roundw
        case rel => exact ⟨q + 1, by omega, by go_num, by rw [HT.out], HF.out _⟩
        case measure => simp [intOf]; omega
      · have e1 : decide (0 < (q : Int)) = true := decide_eq_true (by omega)
        have e2 : decide (0 < q) = true := decide_eq_true (by omega)
        have wq : IntKind.i64.wrap ((q : Int) - 1) = ((q - 1 : Nat) : Int) := by rw [IntKind.wrap_i64]; omega
        obtain ⟨m2, p, ha, hb, _, hpl2, hpar⟩ := HN.out (q - 1) (by omega)
        rw [show q - 1 + 1 = q from by omega, HMM.out] at ha
        obtain rfl : m = m2 := by omega
        have c0 := HR.out.2.1.cell (j := q - 1) (by omega)
        rw [hb] at c0
        have hin : (m : Int) ∈ kidsF xs (p : Int) := kidsTo_in hpar xs.length hml
        have hkl := kids_len xs (p : Int)
        have HKA := Lib.hid (fun (W : World) (hW : Below wr.heap.size wr W) => KA.out W (nd_below HR.out.1 hW) p hpl2)
        obtain ⟨r, hr⟩ : ∃ r, q - 1 = r := ⟨_, rfl⟩
        rw [hr] at c0 wq
        have b4 : (0 : Int) ≤ (r : Int) := by omega
        have b5 : (r : Int) < (ps.length : Int) := by omega
        have HIN := Lib.hid hin
        have HRR := HR
        clear HR hq0 ha hb hpar hin hr
        go_wp2_with fail
        refine wp_region_held_drew (S := (fun W' => (W'.cell? ⟨gO, r, none⟩ = some (.int .i64 (p : Int)) ∧ W'.cell? ⟨gO, q, none⟩ = some (.int .i64 (m : Int)) ∧ W'.cell? ⟨gO, q, none⟩ = some (.int .i64 (m : Int)) ∧ W'.cell? ⟨gO, q, none⟩ = some (.int .i64 (m : Int)) ∧ W'.cell? ⟨gO, q, none⟩ = some (.int .i64 (m : Int)) ∧ W'.cell? ⟨gO, q, none⟩ = some (.int .i64 (m : Int))) ∧ Below wr.heap.size wr W')) (by kernel_rfl) ?_ (fun hHeld => ?_)
        · exact ⟨⟨c0, c1, c1, c1, c1, c1⟩, (Below.refl _ _).drew⟩
        refine wpAnyH_take (i := 0) (oi := ?ooa0) (v := ?vva0) ?hia0 (by kernel_rfl) ?h3a0 ?h4a0 ?h5a0 ?h6a0 (by assumption) ?h8a0
        case hia0 => (simp only [List.getElem?_toArray, List.getElem?_cons_succ, List.getElem?_cons_zero]; rfl)
        case h3a0 => kernel_rfl
        case h4a0 => kernel_rfl
        case h6a0 => (refine Or.inl ⟨by rfl, ?_⟩; intro w hSw; (try dsimp only at hSw); (go_simp <;> with_reducible rfl))
        case h5a0 => exact fun _ _ _ h => h
        try simp only [Act.put, List.setIfInBounds_toArray, List.set_cons_zero, List.set_cons_succ]
        refine wpAnyH_take (i := 1) (oi := ?ooa1) (v := ?vva1) ?hia1 (by kernel_rfl) ?h3a1 ?h4a1 ?h5a1 ?h6a1 (by assumption) ?h8a1
        case hia1 => (simp only [List.getElem?_toArray, List.getElem?_cons_succ, List.getElem?_cons_zero]; rfl)
        case h3a1 => kernel_rfl
        case h4a1 => kernel_rfl
        case h6a1 => (refine Or.inl ⟨by rfl, ?_⟩; intro w hSw; (try dsimp only at hSw); (go_simp <;> with_reducible rfl))
        case h5a1 => exact fun _ _ _ h => h
        try simp only [Act.put, List.setIfInBounds_toArray, List.set_cons_zero, List.set_cons_succ]
        refine wpAnyH_take (i := 2) (oi := ?ooa2) (v := ?vva2) ?hia2 (by kernel_rfl) ?h3a2 ?h4a2 ?h5a2 ?h6a2 (by assumption) ?h8a2
        case hia2 => (simp only [List.getElem?_toArray, List.getElem?_cons_succ, List.getElem?_cons_zero]; rfl)
        case h3a2 => kernel_rfl
        case h4a2 => kernel_rfl
        case h6a2 => (refine Or.inl ⟨by rfl, ?_⟩; intro w hSw; (try dsimp only at hSw); (go_simp <;> with_reducible rfl))
        case h5a2 => exact fun _ _ _ h => h
        try simp only [Act.put, List.setIfInBounds_toArray, List.set_cons_zero, List.set_cons_succ]
        refine wpAnyH_take (i := 3) (oi := ?ooa3) (v := ?vva3) ?hia3 (by kernel_rfl) ?h3a3 ?h4a3 ?h5a3 ?h6a3 (by assumption) ?h8a3
        case hia3 => (simp only [List.getElem?_toArray, List.getElem?_cons_succ, List.getElem?_cons_zero]; rfl)
        case h3a3 => kernel_rfl
        case h4a3 => kernel_rfl
        case h6a3 => (refine Or.inl ⟨by rfl, ?_⟩; intro w hSw; (try dsimp only at hSw); (go_simp <;> with_reducible rfl))
        case h5a3 => exact fun _ _ _ h => h
        try simp only [Act.put, List.setIfInBounds_toArray, List.set_cons_zero, List.set_cons_succ]
        refine wpAnyH_take (i := 4) (oi := ?ooa4) (v := ?vva4) ?hia4 (by kernel_rfl) ?h3a4 ?h4a4 ?h5a4 ?h6a4 (by assumption) ?h8a4
        case hia4 => (simp only [List.getElem?_toArray, List.getElem?_cons_succ, List.getElem?_cons_zero]; rfl)
        case h3a4 => kernel_rfl
        case h4a4 => kernel_rfl
        case h6a4 => (refine Or.inl ⟨by rfl, ?_⟩; intro w hSw; (try dsimp only at hSw); (go_simp <;> with_reducible rfl))
        case h5a4 => exact fun _ _ _ h => h
        try simp only [Act.put, List.setIfInBounds_toArray, List.set_cons_zero, List.set_cons_succ]
        refine wpAnyH_take (i := 5) (oi := ?ooa5) (v := ?vva5) ?hia5 (by kernel_rfl) ?h3a5 ?h4a5 ?h5a5 ?h6a5 (by assumption) ?h8a5
        case hia5 => (simp only [List.getElem?_toArray, List.getElem?_cons_succ, List.getElem?_cons_zero]; rfl)
        case h3a5 => kernel_rfl
        case h4a5 => kernel_rfl
        case h6a5 => (refine Or.inl ⟨by rfl, ?_⟩; intro w hSw; (try dsimp only at hSw); (go_simp <;> with_reducible rfl))
        case h5a5 => exact fun _ _ _ h => h
        try simp only [Act.put, List.setIfInBounds_toArray, List.set_cons_zero, List.set_cons_succ]
        refine wpAnyH_take (i := 6) (oi := ?ooa6) (v := ?vva6) ?hia6 (by kernel_rfl) ?h3a6 ?h4a6 ?h5a6 ?h6a6 (by assumption) ?h8a6
        case hia6 => (simp only [List.getElem?_toArray, List.getElem?_cons_succ, List.getElem?_cons_zero]; rfl)
        case h3a6 => kernel_rfl
        case h4a6 => kernel_rfl
        case h6a6 => (refine Or.inl ⟨by rfl, ?_⟩; intro w hSw; (try dsimp only at hSw); (go_simp <;> with_reducible rfl))
        case h5a6 => exact fun _ _ _ h => h
        try simp only [Act.put, List.setIfInBounds_toArray, List.set_cons_zero, List.set_cons_succ]
        refine wpAnyH_take (i := 7) (oi := ?ooa7) (v := ?vva7) ?hia7 (by kernel_rfl) ?h3a7 ?h4a7 ?h5a7 ?h6a7 (by assumption) ?h8a7
        case hia7 => (simp only [List.getElem?_toArray, List.getElem?_cons_succ, List.getElem?_cons_zero]; rfl)
        case h3a7 => kernel_rfl
        case h4a7 => kernel_rfl
        case h6a7 => (refine Or.inl ⟨by rfl, ?_⟩; intro w hSw; (try dsimp only at hSw); (go_simp <;> with_reducible rfl))
        case h5a7 => exact fun _ _ _ h => h
        try simp only [Act.put, List.setIfInBounds_toArray, List.set_cons_zero, List.set_cons_succ]
        refine wpAnyH_take (i := 8) (oi := ?ooa8) (v := ?vva8) ?hia8 (by kernel_rfl) ?h3a8 ?h4a8 ?h5a8 ?h6a8 (by assumption) ?h8a8
        case hia8 => (simp only [List.getElem?_toArray, List.getElem?_cons_succ, List.getElem?_cons_zero]; rfl)
        case h3a8 => kernel_rfl
        case h4a8 => kernel_rfl
        case h6a8 => (refine Or.inl ⟨by rfl, ?_⟩; intro w hSw; (try dsimp only at hSw); (go_simp <;> with_reducible rfl))
        case h5a8 => exact fun _ _ _ h => h
        try simp only [Act.put, List.setIfInBounds_toArray, List.set_cons_zero, List.set_cons_succ]
        refine wpAnyH_take (i := 10) (oi := ?ooa10) (v := ?vva10) ?hia10 (by kernel_rfl) ?h3a10 ?h4a10 ?h5a10 ?h6a10 (by assumption) ?h8a10
        case hia10 => (simp only [List.getElem?_toArray, List.getElem?_cons_succ, List.getElem?_cons_zero]; rfl)
        case h3a10 => kernel_rfl
        case h4a10 => kernel_rfl
        case h6a10 => (refine Or.inl ⟨by rfl, ?_⟩; intro w hSw; (try dsimp only at hSw); (go_simp <;> with_reducible rfl))
        case h5a10 => exact fun _ _ _ h => h
        try simp only [Act.put, List.setIfInBounds_toArray, List.set_cons_zero, List.set_cons_succ]
        refine wpAnyH_take (i := 11) (oi := ?ooa11) (v := ?vva11) ?hia11 (by kernel_rfl) ?h3a11 ?h4a11 ?h5a11 ?h6a11 (by assumption) ?h8a11
        case hia11 => (simp only [List.getElem?_toArray, List.getElem?_cons_succ, List.getElem?_cons_zero]; rfl)
        case h3a11 => kernel_rfl
        case h4a11 => kernel_rfl
        case h6a11 => (refine Or.inl ⟨by rfl, ?_⟩; intro w hSw; (try dsimp only at hSw); (go_simp <;> with_reducible rfl))
        case h5a11 => exact fun _ _ _ h => h
        try simp only [Act.put, List.setIfInBounds_toArray, List.set_cons_zero, List.set_cons_succ]
        refine wpAnyH_take (i := 12) (oi := ?ooa12) (v := ?vva12) ?hia12 (by kernel_rfl) ?h3a12 ?h4a12 ?h5a12 ?h6a12 (by assumption) ?h8a12
        case hia12 => (simp only [List.getElem?_toArray, List.getElem?_cons_succ, List.getElem?_cons_zero]; rfl)
        case h3a12 => kernel_rfl
        case h4a12 => kernel_rfl
        case h6a12 => (refine Or.inl ⟨by rfl, ?_⟩; intro w hSw; (try dsimp only at hSw); (go_simp <;> with_reducible rfl))
        case h5a12 => exact fun _ _ _ h => h
        try simp only [Act.put, List.setIfInBounds_toArray, List.set_cons_zero, List.set_cons_succ]
        refine wpAnyH_take (i := 13) (oi := ?ooa13) (v := ?vva13) ?hia13 (by kernel_rfl) ?h3a13 ?h4a13 ?h5a13 ?h6a13 (by assumption) ?h8a13
        case hia13 => (simp only [List.getElem?_toArray, List.getElem?_cons_succ, List.getElem?_cons_zero]; rfl)
        case h3a13 => kernel_rfl
        case h4a13 => kernel_rfl
        case h6a13 => (refine Or.inl ⟨by rfl, ?_⟩; intro w hSw; (try dsimp only at hSw); (go_simp <;> with_reducible rfl))
        case h5a13 => exact fun _ _ _ h => h
        try simp only [Act.put, List.setIfInBounds_toArray, List.set_cons_zero, List.set_cons_succ]
        refine wpAnyH_ready (rs := [9]) (by kernel_rfl) (by simp) (AllReadyH.cons (o := ?ooa9) ?hia9 (fun K hK => ?hka9) AllReadyH.nil)
        rotate_left
        case hia9 => (simp only [List.getElem?_toArray, List.getElem?_cons_succ, List.getElem?_cons_zero]; rfl)
        (rw [if_pos (by rfl)]; go_simp; refine (HKA.out _ hHeld.2).mono ?_; rintro e wq2 ⟨vk, rfl, hKd, hb⟩; obtain ⟨kb, kc, rfl, _⟩ := hKd.ints; go_wp2_with fail; refine hK.out _ _ (kp6 hb hHeld) (fun hHeld => ?_); clear hK K)
        try simp only [Act.put, List.setIfInBounds_toArray, List.set_cons_zero, List.set_cons_succ]
        refine wpAnyH_ready (rs := [14]) (by kernel_rfl) (by simp) (AllReadyH.cons (o := ?ooa14) ?hia14 (fun K hK => ?hka14) AllReadyH.nil)
        rotate_left
        case hia14 => (simp only [List.getElem?_toArray, List.getElem?_cons_succ, List.getElem?_cons_zero]; rfl)
        (rw [if_pos (by rfl)]; go_simp; have CN := lisIn kb kc (kidsF xs (p : Int)) (m : Int) wq2 hKd.at_ (by omega); rw [decide_eq_true HIN.out] at CN; refine CN.mono ?_; rintro e w' ⟨rfl, rfl⟩; go_wp2_with fail; refine hK.out _ _ (hHeld) (fun hHeld => ?_); clear hK K)
        try simp only [Act.put, List.setIfInBounds_toArray, List.set_cons_zero, List.set_cons_succ]
        refine wpAnyH_take (i := 15) (oi := ?ooa15) (v := ?vva15) ?hia15 (by kernel_rfl) ?h3a15 ?h4a15 ?h5a15 ?h6a15 (by assumption) ?h8a15
        case hia15 => (simp only [List.getElem?_toArray, List.getElem?_cons_succ, List.getElem?_cons_zero]; rfl)
        case h3a15 => kernel_rfl
        case h4a15 => kernel_rfl
        case h6a15 => (refine Or.inl ⟨by rfl, ?_⟩; intro w hSw; (try dsimp only at hSw); (go_simp <;> with_reducible rfl))
        case h5a15 => exact fun _ _ _ h => h
        try simp only [Act.put, List.setIfInBounds_toArray, List.set_cons_zero, List.set_cons_succ]
        refine wpAnyH_take (i := 16) (oi := ?ooa16) (v := ?vva16) ?hia16 (by kernel_rfl) ?h3a16 ?h4a16 ?h5a16 ?h6a16 (by assumption) ?h8a16
        case hia16 => (simp only [List.getElem?_toArray, List.getElem?_cons_succ, List.getElem?_cons_zero]; rfl)
        case h3a16 => kernel_rfl
        case h4a16 => kernel_rfl
        case h6a16 => (refine Or.inl ⟨by rfl, ?_⟩; intro w hSw; (try dsimp only at hSw); (go_simp <;> with_reducible rfl))
        case h5a16 => exact fun _ _ _ h => h
        try simp only [Act.put, List.setIfInBounds_toArray, List.set_cons_zero, List.set_cons_succ]
        refine wpAnyH_done (by kernel_rfl) ?_ _
        have HF : Hid (IsNd wq2 (some ⟨g, o, none⟩) xs ∧ OwnI wq2 _ (.slice (some ⟨gO, 0, none⟩) ps.length cO) ps ∧ Below w.heap.size w wq2) := ⟨nd_below HRR.out.1 hHeld.2, HRR.out.2.1.of_block hHeld.2, bel_tr HRR.out.2.2 hHeld.2⟩
        clear hHeld hb hKd CN HRR
        go_wp2_with fail
        go_roundw
        case rel => exact ⟨q + 1, by omega, by go_num, by rw [HT.out], HF.out⟩
        case measure => simp [intOf]; omega
    · have c0 := HR.out.2.1.cell (j := 0) (by omega)
      have c1 := HR.out.2.1.cell (j := ps.length - 1) (by omega)
      rw [HPE.out.2] at c0
      rw [HPE.out.1] at c1
      have hs : dlySum xs (ps.take q) = D := by rw [List.take_of_length_le (by omega)]; exact HDE.out.symm
      rw [hs]
      have CD := DA.out wr HR.out.1
      have wl : IntKind.i64.wrap ((ps.length : Int) - 1) = ((ps.length - 1 : Nat) : Int) := by rw [IntKind.wrap_i64]; omega
      obtain ⟨r, hr⟩ : ∃ r, ps.length - 1 = r := ⟨_, rfl⟩
      rw [hr] at c1 wl
      have b0 : (0 : Int) < (ps.length : Int) := by omega
      have b4 : (0 : Int) ≤ (r : Int) := by omega
      have b5 : (r : Int) < (ps.length : Int) := by omega
      have HB := Lib.hid HR.out.2.2
      clear HR hs hr s0 s1
      go_wp2_with fail
      refine CD.mono ?_
      rintro e u ⟨rfl, C⟩
      have HB2 := Lib.hid (bel_tr HB.out C)
      clear C CD
      go_wp2_with fail
      go_ret
      exact ⟨rfl, HB2.out⟩

set_option maxRecDepth 100000 in
theorem lifted (os : Os) (started : os.Started) (H : Type) (enc : TypeId × Value → H) :
    ReturnsInHanded {} Try.checked os 5 .any (Rows.fnPathToSpec.pre6 enc Try.prog Try.f5 Rows.fnPathToRow.domain false) (Rows.fnPathToSpec.post enc Try.prog Try.f5 false true false false) := by
  refine returnsInHanded_of_change (C := Try.checked) own started (by kernel_rfl) Try.func5
    (ChangeSpec.witness6 (enc := enc) (C := Try.checked) false ⟨#[], #[.slice none 0 0], []⟩ 8 (by kernel_rfl) (by kernel_rfl) (by kernel_rfl) (by kernel_rfl)) ?_
  intro W base args ds gs before hval0 hW hcnd _
  have hval : ∀ (j : Nat) t v, Try.f5.params[j]? = some t → args[j]? = some v → Value.okWide Try.prog W .any base t v := hval0
  have hW' := hW
  obtain ⟨p, q, hA0, hV, rfl, hfz, hnd⟩ := hW
  have hA : DataW.TrodAll enc Try.prog W 0 (fun _ => true) true Try.f5.params.toList args.toList ds p := hA0
  rw [Try.params5] at hA hval
  obtain ⟨v0, vs0, e0, es0, p0, q0, hargs, rfl, rfl, h0, r0⟩ := trodAll_cons hA
  obtain ⟨rfl, rfl, rfl⟩ := trodAll_nil r0
  obtain rfl : args = #[v0] := by cases args; simp_all
  obtain ⟨rfl, rfl⟩ := trodVars_none hV
  have k0 := h0
  have lt0 : ∀ x ∈ p0, x.block < W.heap.size := by obtain ⟨m, hm⟩ := k0; exact DataW.trod_lt m _ _ _ hm
  obtain ⟨a0, len0, cap0, rfl⟩ := okWide_slice Try.underlying22 (hval 0 22 v0 rfl rfl)
  obtain ⟨z0, w0⟩ : ∃ zs, IsRow .u8 W a0 len0 cap0 zs := by
    obtain ⟨fuel, hf⟩ := h0
    rcases open_ints Try.underlying22 Try.underlying5 (by kernel_rfl) hf with ⟨hcs, _⟩ | ⟨x, l, c, zs, hcs, _, hl, hm, hz, _, hcell, hwz⟩
    · simp [Value.cells] at hcs
      obtain ⟨rfl, rfl, rfl⟩ := hcs
      exact ⟨[], .inl ⟨rfl, rfl, rfl, rfl⟩⟩
    · simp [Value.cells] at hcs
      obtain ⟨rfl, rfl, rfl⟩ := hcs
      exact ⟨zs, .inr ⟨_, rfl, hl, hm, by simpa using hz, hcell, hwz⟩⟩
  clear hA0 hval0
  refine (walk a0 len0 cap0 z0 W w0).mono fun e W' ⟨he, bel⟩ => ?_
  subst he
  exact ⟨_, rfl, _, _, _, [], _, [], hW', trodAll_mk1 (shut_bool Try.underlying4 _), (trodAll_cons_mk (Below.trod laidOut (by kernel_rfl) (of_decide_eq_true (by kernel_rfl)) k0 bel lt0) trodAll_mk0), rfl, bel.frame _, fun h => by cases h⟩

theorem over : Rows.fnPathToRow.holds Try.pinned (OpenSpec.ofChange Rows.fnPathToSpec) :=
  OpenClaim.holds_of_wide 5 Try.f5 rfl rfl rfl rfl rfl rfl rfl ⟨rfl, rfl, rfl, rfl, rfl⟩ rfl rfl rfl rfl rfl (by kernel_rfl) Try.func5 (by kernel_rfl)
    (of_decide_eq_true (by kernel_rfl)) (by unfold Func.isWrapper; first | (rw [if_pos (by decide +kernel)]; kernel_rfl) | (rw [if_neg (by decide +kernel)]; exact ⟨rfl, rfl⟩))
    (fun os started H enc _ => lifted os started H enc)

end Go.Proofs.Ytbmpcggdkeakeaa.fnPathTo
namespace Go.Proofs.Ytbmpcggdkeakeaa
/-- the statement -/
theorem fnPathTo_holds : Rows.FnPathToSaid := fnPathTo.over
end Go.Proofs.Ytbmpcggdkeakeaa
