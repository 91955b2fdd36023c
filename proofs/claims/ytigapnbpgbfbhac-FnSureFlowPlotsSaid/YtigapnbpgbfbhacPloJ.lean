/- Best plots, and what plots need, by the program. Condition: at most 1048576 plots and indices. -/
import Derived.Test.YtigapnbpgbfbhacPloI
import Derived.Test.YtigapnbpgbfbhacClmN
import Derived.Test.YtigapnbpgbfbhacGrA
import Derived.Deep.RegionHeld3
import Derived.Deep.QuietTactic
namespace Go.Proofs.Ytigapnbpgbfbhac
open Go.RowKit
set_option linter.unusedSimpArgs false
set_option linter.unusedVariables false
theorem vp_take {ps : List Pl} (h : vpB ps = true) (m : Nat) : vpB (ps.take m) = true := by
  have hl : (ps.take m).length ≤ ps.length := by rw [List.length_take]; omega
  refine vp_yes (by have := (vp_is h).1; omega) (fun k hk => ?_)
  have e : (ps.take m).getD k pl0 = ps.getD k pl0 := by
    rw [List.length_take] at hk
    rw [List.getD_eq_getElem?_getD, List.getD_eq_getElem?_getD, List.getElem?_take_of_lt (by omega)]
  rw [e]; exact (vp_is h).2 k (by omega)
theorem byV_take {ps : List Pl} (h : vpB ps = true) {m L : Nat} (hm : m ≤ ps.length) (hL : L ≤ 500) : byV (ps.take m) (L : Int) = yT ps m L := by
  have hl : (ps.take m).length = m := by rw [List.length_take]; omega
  rw [byV_yes (wp_yes (vp_take h m) (by omega) (by omega)), hl, yT_take ps m m L (Nat.le_refl _)]
theorem ints_takeP {w : World} {a : Option Addr} {zs : List Int} (h : IsInts w a zs) (m : Nat) : IsInts w a (zs.take m) := by
  rcases h with rfl | ⟨g, o, rfl, hc⟩
  · exact .inl (by simp)
  · refine .inr ⟨g, o, rfl, fun i hi => ?_⟩
    rw [List.length_take] at hi
    rw [hc i (by omega), List.getD_eq_getElem?_getD, List.getD_eq_getElem?_getD, List.getElem?_take_of_lt (by omega)]
set_option maxRecDepth 100000 in
set_option maxHeartbeats 8000000 in
/-- impl.BestPlots -/
theorem iBP (a : Option Addr) (cap : Nat) (ps : List Pl) (q : Int) (w : World) (h : IsPl w a ps) (hn : ps.length ≤ 1048576) (hcap : ps.length ≤ cap) :
    Calls Try.prog 20 #[.slice a ps.length cap, .int .i64 q] w (OutI w (bpV ps q)) := by
  obtain ⟨i0, hi0, hz0, hz1, hz2⟩ := info_parts infoInt
  have CV := iVP a cap ps w h hn
  cases hv : vpB ps with
  | false =>
    rw [hv] at CV
    have HN : Hid (wpB ps q = false) := by show _ = _; unfold wpB; rw [hv]; rfl
    clear hv h
    go_enter Try.func20, Try.ntmps20
    go_wp2_with fail
    refine CV.mono ?_
    rintro e w1 ⟨rfl, C⟩
    clear CV
    go_wp2_with fail
    go_ret
    rw [bpV_no HN.out]; exact outI_nil C
  | true =>
  rw [hv] at CV
  by_cases hq : 0 ≤ q ∧ q ≤ 500
  rotate_left
  · have HN : Hid (wpB ps q = false) := by
      show _ = _
      cases e : wpB ps q with
      | false => rfl
      | true => exact absurd (wp_is e).2 hq
    have hq2 : q < 0 ∨ 500 < q := by omega
    clear hv h hq
    go_enter Try.func20, Try.ntmps20
    go_wp2_with fail
    refine CV.mono ?_
    rintro e w1 ⟨rfl, C⟩
    clear CV
    go_wp2_with fail
    refine (iwithin_no q 500 _ hq2).mono ?_
    rintro e w' ⟨rfl, rfl⟩
    go_wp2_with fail
    go_ret
    rw [bpV_no HN.out]; exact outI_nil C
  have HW := Lib.hid (wp_yes hv hq.1 hq.2)
  obtain ⟨M, hM⟩ : ∃ M : Nat, q = (M : Int) := ⟨q.toNat, by omega⟩
  subst hM
  rw [bpV_yes HW.out]
  obtain ⟨q0, q1⟩ := hq
  have M5 : M ≤ 500 := by omega
  have l10 := (vp_is hv).1
  have wn : IntKind.i64.wrap ((ps.length : Int) - 1) = (ps.length : Int) - 1 := by rw [IntKind.wrap_i64]; omega
  rcases h with rfl | ⟨ga, oa, rfl, hc⟩
  · clear hv HW
    go_enter Try.func20, Try.ntmps20
    go_wp2_with fail
    refine CV.mono ?_
    rintro e w1 ⟨rfl, C⟩
    clear CV
    go_wp2_with fail
    refine (iwithin_yes (M : Int) 500 _ q0 q1).mono ?_
    rintro e w' ⟨rfl, rfl⟩
    have HX := Lib.hid (And.intro (OwnI.new C) (C.alloc C.size (.cells #[] 3)))
    clear C
    go_wp2_with fail
    go_rounds 1
    go_ret
    exact ⟨_, rfl, HX.out.1, HX.out.2⟩
  have HC := Lib.hid hc
  have HBY : Hid (∀ (m L : Nat) (W : World), m ≤ ps.length → L ≤ 500 → Below w.heap.size w W → Calls Try.prog 18 #[.slice (some ⟨ga, oa, none⟩) m cap, .int .i64 (L : Int)] W fun e w' => e = .returned (.int .i64 (yT ps m L)) ∧ Below W.heap.size W w') := fun m L W hm hL hW => by
    have hl : (ps.take m).length = m := by rw [List.length_take]; omega
    have h := iBY (some ⟨ga, oa, none⟩) cap (ps.take m) (L : Int) W (pl_below (pl_take hc m) hW) (by omega)
    rw [hl, byV_take hv hm hL] at h; exact h
  have HNE : Hid (∀ (j L : Nat), yT ps j L < yT ps (j + 1) L → (ps.getD j pl0).1 ≤ (L : Int)) := fun j L e => (sel_need e).1
  have HVA : Hid (∀ k, k < ps.length → (0 ≤ (ps.getD k pl0).1 ∧ (ps.getD k pl0).1 ≤ 500)) := fun k hk => (vp_at hv hk).1
  clear hc hv HW
  go_enter Try.func20, Try.ntmps20
  go_wp2_with fail
  refine CV.mono ?_
  rintro e w1 ⟨rfl, C⟩
  clear CV
  go_wp2_with fail
  refine (iwithin_yes (M : Int) 500 _ q0 q1).mono ?_
  rintro e w' ⟨rfl, rfl⟩
  have HXX := Lib.hid (And.intro (OwnI.new C) (C.alloc C.size (.cells #[] 3)))
  clear C
  go_wp2_with fail
  go_loopw [5, 6, 7] (fun v l i wr => ∃ (k L : Nat) (R : List Int), k ≤ ps.length ∧ L ≤ 500 ∧ l = .int .i64 (L : Int) ∧ (∃ z : Int, i = .int .i64 z ∧ z = (k : Int) - 1) ∧ OwnI wr w.heap.size v R ∧ selTo ps ps.length M = selTo ps k L ++ R ∧ Below w.heap.size w wr) (fun _ _ i _ => (intOf i + 1).toNat)
  case atStart => exact ⟨ps.length, M, [], Nat.le_refl _, M5, rfl, ⟨_, rfl, rfl⟩, HXX.out.1, by simp, HXX.out.2⟩
  case round =>
    clear HXX
    obtain ⟨k, L, R, hk, hL, rfl, ⟨z, rfl, hz⟩, hO, hS, hB⟩ := hrel
    by_cases hk0 : k = 0
    · subst hk0
      obtain rfl : z = -1 := by omega
      clear hz
      obtain ⟨sa, sc, rfl, _⟩ := OwnI.ints hO
      have HX := Lib.hid (And.intro hO hB)
      have HS : Hid (selTo ps ps.length M = R) := hS
      clear hO hB hS
      go_wp2_with fail
      go_ret
      exact ⟨_, rfl, by rw [HS.out]; exact HX.out.1, HX.out.2⟩
    · obtain ⟨j, hj⟩ : ∃ j, k = j + 1 := ⟨k - 1, by omega⟩
      subst hj
      obtain rfl : z = (j : Int) := by omega
      clear hz
      have hj : j < ps.length := by omega
      have C1 := Lib.hid (fun W hW => HBY.out j L W (by omega) hL hW)
      have C2 := Lib.hid (fun W hW => HBY.out (j + 1) L W hk hL hW)
      have hlR : R.length ≤ 10 := by
        have h1 := sel_len ps ps.length M
        rw [hS, List.length_append] at h1; omega
      have hva := HVA.out j hj
      have hne := HNE.out j L
      have hsy : yT ps j L < yT ps (j + 1) L → selTo ps ps.length M = selTo ps j (L - (ps.getD j pl0).1.toNat) ++ ((j : Int) :: R) := fun e => by rw [hS, sel_yes e, List.append_assoc]; rfl
      have hsn : ¬ yT ps j L < yT ps (j + 1) L → selTo ps ps.length M = selTo ps j L ++ R := fun e => by rw [hS, sel_no e]
      obtain ⟨y1, hy1⟩ : ∃ y, yT ps j L = y := ⟨_, rfl⟩
      obtain ⟨y2, hy2⟩ : ∃ y, yT ps (j + 1) L = y := ⟨_, rfl⟩
      rw [hy1] at C1 hne hsy hsn
      rw [hy2] at C2 hne hsy hsn
      obtain ⟨x0, hx0⟩ : ∃ x, (ps.getD j pl0).1 = x := ⟨_, rfl⟩
      rw [hx0] at hva hne hsy
      have HX0 := Lib.hid hx0
      obtain ⟨sa, sc, rfl, _⟩ := OwnI.ints hO
      have HO := Lib.hid hO
      have HB := Lib.hid hB
      have j0 : (0 : Int) ≤ (j : Int) := by omega
      have jx : (j : Int) < (ps.length : Int) := by omega
      have jc : (j : Int) ≤ (cap : Int) := by omega
      have jc1 : (j : Int) + 1 ≤ (cap : Int) := by omega
      have j1 : (0 : Int) ≤ (j : Int) + 1 := by omega
      have t1 : ((j : Int) + 1).toNat = j + 1 := by omega
      have wj : IntKind.i64.wrap ((j : Int) + 1) = (j : Int) + 1 := by rw [IntKind.wrap_i64]; omega
      have wj2 : IntKind.i64.wrap ((j : Int) - 1) = (j : Int) - 1 := by rw [IntKind.wrap_i64]; omega
      clear hO hB hS hy1 hy2 hx0
      by_cases c : y1 < y2
      · have e1 : decide (y1 < y2) = true := decide_eq_true c
        have hn2 := hne c
        obtain ⟨d, hd⟩ : ∃ d : Nat, x0 = (d : Int) := ⟨x0.toNat, by omega⟩
        subst hd
        have HSY : Hid (selTo ps ps.length M = selTo ps j (L - d) ++ ((j : Int) :: R)) := by
          have := hsy c
          rw [show ((d : Int)).toNat = d from by omega] at this; exact this
        have wd : IntKind.i64.wrap ((L : Int) - (d : Int)) = ((L - d : Nat) : Int) := by rw [IntKind.wrap_i64]; omega
        clear hsy hsn hne
        go_wp2_with fail
        have HMK1 := Lib.hid (fun (W : World) (hW : Below wr.heap.size wr W) => (⟨trivial, hW⟩ : (True) ∧ Below wr.heap.size wr W))
        refine wp_region_held_drew (S := (fun w' => (True) ∧ Below wr.heap.size wr w')) (by kernel_rfl) ?_ (fun hHeld => ?_)
        · exact ⟨trivial, (Below.refl _ _).drew⟩
        refine wpAnyH_take (i := 0) (oi := ?ooa2_) (v := ?vva2_) ?hia2_ (by kernel_rfl) ?h3a2_ ?h4a2_ ?h5a2_ ?h6a2_ (by assumption) ?h8a2_
        case hia2_ => (simp only [List.getElem?_toArray, List.getElem?_cons_succ, List.getElem?_cons_zero]; rfl)
        case h3a2_ => kernel_rfl
        case h4a2_ => kernel_rfl
        case h6a2_ => (refine Or.inl ⟨by rfl, ?_⟩; intro w hSw; (try dsimp only at hSw); (go_simp <;> with_reducible rfl))
        case h5a2_ => exact fun _ _ _ h => h
        try simp only [Act.put, List.setIfInBounds_toArray, List.set_cons_zero, List.set_cons_succ]
        refine wpAnyH_take (i := 1) (oi := ?ooa3_) (v := ?vva3_) ?hia3_ (by kernel_rfl) ?h3a3_ ?h4a3_ ?h5a3_ ?h6a3_ (by assumption) ?h8a3_
        case hia3_ => (simp only [List.getElem?_toArray, List.getElem?_cons_succ, List.getElem?_cons_zero]; rfl)
        case h3a3_ => kernel_rfl
        case h4a3_ => kernel_rfl
        case h6a3_ => (refine Or.inl ⟨by rfl, ?_⟩; intro w hSw; (try dsimp only at hSw); (go_simp <;> with_reducible rfl))
        case h5a3_ => exact fun _ _ _ h => h
        try simp only [Act.put, List.setIfInBounds_toArray, List.set_cons_zero, List.set_cons_succ]
        refine wpAnyH_take (i := 2) (oi := ?ooa4_) (v := ?vva4_) ?hia4_ (by kernel_rfl) ?h3a4_ ?h4a4_ ?h5a4_ ?h6a4_ (by assumption) ?h8a4_
        case hia4_ => (simp only [List.getElem?_toArray, List.getElem?_cons_succ, List.getElem?_cons_zero]; rfl)
        case h3a4_ => kernel_rfl
        case h4a4_ => kernel_rfl
        case h6a4_ => (refine Or.inl ⟨by rfl, ?_⟩; intro w hSw; (try dsimp only at hSw); (go_simp <;> with_reducible rfl))
        case h5a4_ => exact fun _ _ _ h => h
        try simp only [Act.put, List.setIfInBounds_toArray, List.set_cons_zero, List.set_cons_succ]
        refine wpAnyH_take (i := 3) (oi := ?ooa5_) (v := ?vva5_) ?hia5_ (by kernel_rfl) ?h3a5_ ?h4a5_ ?h5a5_ ?h6a5_ (by assumption) ?h8a5_
        case hia5_ => (simp only [List.getElem?_toArray, List.getElem?_cons_succ, List.getElem?_cons_zero]; rfl)
        case h3a5_ => kernel_rfl
        case h4a5_ => kernel_rfl
        case h6a5_ => (refine Or.inl ⟨by rfl, ?_⟩; intro w hSw; (try dsimp only at hSw); (go_simp <;> with_reducible rfl))
        case h5a5_ => exact fun _ _ _ h => h
        try simp only [Act.put, List.setIfInBounds_toArray, List.set_cons_zero, List.set_cons_succ]
        refine wpAnyH_take (i := 5) (oi := ?ooa6_) (v := ?vva6_) ?hia6_ (by kernel_rfl) ?h3a6_ ?h4a6_ ?h5a6_ ?h6a6_ (by assumption) ?h8a6_
        case hia6_ => (simp only [List.getElem?_toArray, List.getElem?_cons_succ, List.getElem?_cons_zero]; rfl)
        case h3a6_ => kernel_rfl
        case h4a6_ => kernel_rfl
        case h6a6_ => (refine Or.inl ⟨by rfl, ?_⟩; intro w hSw; (try dsimp only at hSw); (go_simp <;> with_reducible rfl))
        case h5a6_ => exact fun _ _ _ h => h
        try simp only [Act.put, List.setIfInBounds_toArray, List.set_cons_zero, List.set_cons_succ]
        refine wpAnyH_take (i := 6) (oi := ?ooa7_) (v := ?vva7_) ?hia7_ (by kernel_rfl) ?h3a7_ ?h4a7_ ?h5a7_ ?h6a7_ (by assumption) ?h8a7_
        case hia7_ => (simp only [List.getElem?_toArray, List.getElem?_cons_succ, List.getElem?_cons_zero]; rfl)
        case h3a7_ => kernel_rfl
        case h4a7_ => kernel_rfl
        case h6a7_ => (refine Or.inl ⟨by rfl, ?_⟩; intro w hSw; (try dsimp only at hSw); (go_simp <;> with_reducible rfl))
        case h5a7_ => exact fun _ _ _ h => h
        try simp only [Act.put, List.setIfInBounds_toArray, List.set_cons_zero, List.set_cons_succ]
        refine wpAnyH_take (i := 7) (oi := ?ooa8_) (v := ?vva8_) ?hia8_ (by kernel_rfl) ?h3a8_ ?h4a8_ ?h5a8_ ?h6a8_ (by assumption) ?h8a8_
        case hia8_ => (simp only [List.getElem?_toArray, List.getElem?_cons_succ, List.getElem?_cons_zero]; rfl)
        case h3a8_ => kernel_rfl
        case h4a8_ => kernel_rfl
        case h6a8_ => (refine Or.inl ⟨by rfl, ?_⟩; intro w hSw; (try dsimp only at hSw); (go_simp <;> with_reducible rfl))
        case h5a8_ => exact fun _ _ _ h => h
        try simp only [Act.put, List.setIfInBounds_toArray, List.set_cons_zero, List.set_cons_succ]
        refine wpAnyH_take (i := 8) (oi := ?ooa9_) (v := ?vva9_) ?hia9_ (by kernel_rfl) ?h3a9_ ?h4a9_ ?h5a9_ ?h6a9_ (by assumption) ?h8a9_
        case hia9_ => (simp only [List.getElem?_toArray, List.getElem?_cons_succ, List.getElem?_cons_zero]; rfl)
        case h3a9_ => kernel_rfl
        case h4a9_ => kernel_rfl
        case h6a9_ => (refine Or.inl ⟨by rfl, ?_⟩; intro w hSw; (try dsimp only at hSw); (go_simp <;> with_reducible rfl))
        case h5a9_ => exact fun _ _ _ h => h
        try simp only [Act.put, List.setIfInBounds_toArray, List.set_cons_zero, List.set_cons_succ]
        refine wpAnyH_take (i := 9) (oi := ?ooa10_) (v := ?vva10_) ?hia10_ (by kernel_rfl) ?h3a10_ ?h4a10_ ?h5a10_ ?h6a10_ (by assumption) ?h8a10_
        case hia10_ => (simp only [List.getElem?_toArray, List.getElem?_cons_succ, List.getElem?_cons_zero]; rfl)
        case h3a10_ => kernel_rfl
        case h4a10_ => kernel_rfl
        case h6a10_ => (refine Or.inl ⟨by rfl, ?_⟩; intro w hSw; (try dsimp only at hSw); (go_simp <;> with_reducible rfl))
        case h5a10_ => exact fun _ _ _ h => h
        try simp only [Act.put, List.setIfInBounds_toArray, List.set_cons_zero, List.set_cons_succ]
        refine wpAnyH_ready (rs := [4]) (by kernel_rfl) (by simp) (AllReadyH.cons (o := ?ooa11_q0) ?hia11_q0 (fun K hK => ?hka11_q0) AllReadyH.nil)
        case hia11_q0 => (simp only [List.getElem?_toArray, List.getElem?_cons_succ, List.getElem?_cons_zero]; rfl)
        case hka11_q0 =>
          (rw [if_pos (by rfl)]; go_simp; refine (C1.out _ (bel_tr HB.out hHeld.2)).mono ?_; rintro e q4 ⟨rfl, hb⟩; go_wp2_with fail; refine hK.out _ _ (HMK1.out _ (bel_tr hHeld.2 hb)) (fun hHeld => ?_); clear hK K)
          try simp only [Act.put, List.setIfInBounds_toArray, List.set_cons_zero, List.set_cons_succ]
          refine wpAnyH_ready (rs := [10]) (by kernel_rfl) (by simp) (AllReadyH.cons (o := ?ooa12_q0) ?hia12_q0 (fun K hK => ?hka12_q0) AllReadyH.nil)
          case hia12_q0 => (simp only [List.getElem?_toArray, List.getElem?_cons_succ, List.getElem?_cons_zero]; rfl)
          case hka12_q0 =>
            (rw [if_pos (by rfl)]; go_simp; refine (C2.out _ (bel_tr HB.out hHeld.2)).mono ?_; rintro e q10 ⟨rfl, hb⟩; go_wp2_with fail; refine hK.out _ _ (HMK1.out _ (bel_tr hHeld.2 hb)) (fun hHeld => ?_); clear hK K)
            try simp only [Act.put, List.setIfInBounds_toArray, List.set_cons_zero, List.set_cons_succ]
            refine wpAnyH_take (i := 11) (oi := ?ooa13_) (v := ?vva13_) ?hia13_ (by kernel_rfl) ?h3a13_ ?h4a13_ ?h5a13_ ?h6a13_ (by assumption) ?h8a13_
            case hia13_ => (simp only [List.getElem?_toArray, List.getElem?_cons_succ, List.getElem?_cons_zero]; rfl)
            case h3a13_ => kernel_rfl
            case h4a13_ => kernel_rfl
            case h6a13_ => (refine Or.inl ⟨by rfl, ?_⟩; intro w hSw; (try dsimp only at hSw); (go_simp <;> with_reducible rfl))
            case h5a13_ => exact fun _ _ _ h => h
            try simp only [Act.put, List.setIfInBounds_toArray, List.set_cons_zero, List.set_cons_succ]
            refine wpAnyH_done (by kernel_rfl) ?_ _
            clear HMK1
            have hB9 := bel_tr HB.out hHeld.2
            have hO9 := HO.out.of_block hHeld.2
            clear hHeld
            have hsz := hB9.size
            have hrd := (Reads.of_own hO9).alloc (Nat.le_refl _) (.cells #[.int .i64 (j : Int)] 3)
            have hone := OwnI.one hB9 (j : Int)
            have h1c : ∀ u ∈ R.map (Value.int .i64), u.oneCell' = true := fun u hu => by obtain ⟨z, _, rfl⟩ := List.mem_map.1 hu; rfl
            have HBG : Hid (∀ W, (q10.alloc (.cells #[.int .i64 (j : Int)] 3)).grownBy W (some q10.heap.size) → Below w.heap.size w W) := fun W hg => (hB9.alloc hsz _).grown hg (by simp; omega) (fun q hq => by have e : q10.heap.size = q := Option.some.inj hq; omega)
            clear hB9 hO9
            go_wp2_with (first | (at_builtin; refine wpList_append_any _ rfl (.tmp 38) (.tmp 39) _ rfl w.heap.size 3 i0 _ 1 8 Try.underlying31 hi0 hz0 hz1 hz2 rfl (by omega) _ 1 [.int .i64 (j : Int)] rfl hone q10.heap.size sa R.length sc (R.map (Value.int .i64)) rfl hrd h1c (by unfold maxLen; omega) (by omega) (by simp; omega) ?_; intro v3 w3 hown3 hgrow3 hat3; have hB3 := HBG.out w3 hgrow3; have hcell := (pl_at HC.out hB3 hj).1; rw [HX0.out] at hcell; clear hrd hone h1c hgrow3 hat3; replace hown3 := Lib.hid (OwnI.cons hown3); replace hB3 := Lib.hid hB3))
            go_roundw
            case rel => exact ⟨j, L - d, (j : Int) :: R, by omega, by omega, by go_num, ⟨_, by go_num, by first | rfl | omega⟩, hown3.out, HSY.out, hB3.out⟩
            case measure => simp [intOf] <;> omega

      · have e1 : decide (y1 < y2) = false := decide_eq_false c
        have HSN := Lib.hid (hsn c)
        clear hsy hsn hne
        go_wp2_with fail
        have HMK14 := Lib.hid (fun (W : World) (hW : Below wr.heap.size wr W) => (⟨trivial, hW⟩ : (True) ∧ Below wr.heap.size wr W))
        refine wp_region_held_drew (S := (fun w' => (True) ∧ Below wr.heap.size wr w')) (by kernel_rfl) ?_ (fun hHeld => ?_)
        · exact ⟨trivial, (Below.refl _ _).drew⟩
        refine wpAnyH_take (i := 0) (oi := ?ooa15_) (v := ?vva15_) ?hia15_ (by kernel_rfl) ?h3a15_ ?h4a15_ ?h5a15_ ?h6a15_ (by assumption) ?h8a15_
        case hia15_ => (simp only [List.getElem?_toArray, List.getElem?_cons_succ, List.getElem?_cons_zero]; rfl)
        case h3a15_ => kernel_rfl
        case h4a15_ => kernel_rfl
        case h6a15_ => (refine Or.inl ⟨by rfl, ?_⟩; intro w hSw; (try dsimp only at hSw); (go_simp <;> with_reducible rfl))
        case h5a15_ => exact fun _ _ _ h => h
        try simp only [Act.put, List.setIfInBounds_toArray, List.set_cons_zero, List.set_cons_succ]
        refine wpAnyH_take (i := 1) (oi := ?ooa16_) (v := ?vva16_) ?hia16_ (by kernel_rfl) ?h3a16_ ?h4a16_ ?h5a16_ ?h6a16_ (by assumption) ?h8a16_
        case hia16_ => (simp only [List.getElem?_toArray, List.getElem?_cons_succ, List.getElem?_cons_zero]; rfl)
        case h3a16_ => kernel_rfl
        case h4a16_ => kernel_rfl
        case h6a16_ => (refine Or.inl ⟨by rfl, ?_⟩; intro w hSw; (try dsimp only at hSw); (go_simp <;> with_reducible rfl))
        case h5a16_ => exact fun _ _ _ h => h
        try simp only [Act.put, List.setIfInBounds_toArray, List.set_cons_zero, List.set_cons_succ]
        refine wpAnyH_take (i := 2) (oi := ?ooa17_) (v := ?vva17_) ?hia17_ (by kernel_rfl) ?h3a17_ ?h4a17_ ?h5a17_ ?h6a17_ (by assumption) ?h8a17_
        case hia17_ => (simp only [List.getElem?_toArray, List.getElem?_cons_succ, List.getElem?_cons_zero]; rfl)
        case h3a17_ => kernel_rfl
        case h4a17_ => kernel_rfl
        case h6a17_ => (refine Or.inl ⟨by rfl, ?_⟩; intro w hSw; (try dsimp only at hSw); (go_simp <;> with_reducible rfl))
        case h5a17_ => exact fun _ _ _ h => h
        try simp only [Act.put, List.setIfInBounds_toArray, List.set_cons_zero, List.set_cons_succ]
        refine wpAnyH_take (i := 3) (oi := ?ooa18_) (v := ?vva18_) ?hia18_ (by kernel_rfl) ?h3a18_ ?h4a18_ ?h5a18_ ?h6a18_ (by assumption) ?h8a18_
        case hia18_ => (simp only [List.getElem?_toArray, List.getElem?_cons_succ, List.getElem?_cons_zero]; rfl)
        case h3a18_ => kernel_rfl
        case h4a18_ => kernel_rfl
        case h6a18_ => (refine Or.inl ⟨by rfl, ?_⟩; intro w hSw; (try dsimp only at hSw); (go_simp <;> with_reducible rfl))
        case h5a18_ => exact fun _ _ _ h => h
        try simp only [Act.put, List.setIfInBounds_toArray, List.set_cons_zero, List.set_cons_succ]
        refine wpAnyH_take (i := 5) (oi := ?ooa19_) (v := ?vva19_) ?hia19_ (by kernel_rfl) ?h3a19_ ?h4a19_ ?h5a19_ ?h6a19_ (by assumption) ?h8a19_
        case hia19_ => (simp only [List.getElem?_toArray, List.getElem?_cons_succ, List.getElem?_cons_zero]; rfl)
        case h3a19_ => kernel_rfl
        case h4a19_ => kernel_rfl
        case h6a19_ => (refine Or.inl ⟨by rfl, ?_⟩; intro w hSw; (try dsimp only at hSw); (go_simp <;> with_reducible rfl))
        case h5a19_ => exact fun _ _ _ h => h
        try simp only [Act.put, List.setIfInBounds_toArray, List.set_cons_zero, List.set_cons_succ]
        refine wpAnyH_take (i := 6) (oi := ?ooa20_) (v := ?vva20_) ?hia20_ (by kernel_rfl) ?h3a20_ ?h4a20_ ?h5a20_ ?h6a20_ (by assumption) ?h8a20_
        case hia20_ => (simp only [List.getElem?_toArray, List.getElem?_cons_succ, List.getElem?_cons_zero]; rfl)
        case h3a20_ => kernel_rfl
        case h4a20_ => kernel_rfl
        case h6a20_ => (refine Or.inl ⟨by rfl, ?_⟩; intro w hSw; (try dsimp only at hSw); (go_simp <;> with_reducible rfl))
        case h5a20_ => exact fun _ _ _ h => h
        try simp only [Act.put, List.setIfInBounds_toArray, List.set_cons_zero, List.set_cons_succ]
        refine wpAnyH_take (i := 7) (oi := ?ooa21_) (v := ?vva21_) ?hia21_ (by kernel_rfl) ?h3a21_ ?h4a21_ ?h5a21_ ?h6a21_ (by assumption) ?h8a21_
        case hia21_ => (simp only [List.getElem?_toArray, List.getElem?_cons_succ, List.getElem?_cons_zero]; rfl)
        case h3a21_ => kernel_rfl
        case h4a21_ => kernel_rfl
        case h6a21_ => (refine Or.inl ⟨by rfl, ?_⟩; intro w hSw; (try dsimp only at hSw); (go_simp <;> with_reducible rfl))
        case h5a21_ => exact fun _ _ _ h => h
        try simp only [Act.put, List.setIfInBounds_toArray, List.set_cons_zero, List.set_cons_succ]
        refine wpAnyH_take (i := 8) (oi := ?ooa22_) (v := ?vva22_) ?hia22_ (by kernel_rfl) ?h3a22_ ?h4a22_ ?h5a22_ ?h6a22_ (by assumption) ?h8a22_
        case hia22_ => (simp only [List.getElem?_toArray, List.getElem?_cons_succ, List.getElem?_cons_zero]; rfl)
        case h3a22_ => kernel_rfl
        case h4a22_ => kernel_rfl
        case h6a22_ => (refine Or.inl ⟨by rfl, ?_⟩; intro w hSw; (try dsimp only at hSw); (go_simp <;> with_reducible rfl))
        case h5a22_ => exact fun _ _ _ h => h
        try simp only [Act.put, List.setIfInBounds_toArray, List.set_cons_zero, List.set_cons_succ]
        refine wpAnyH_take (i := 9) (oi := ?ooa23_) (v := ?vva23_) ?hia23_ (by kernel_rfl) ?h3a23_ ?h4a23_ ?h5a23_ ?h6a23_ (by assumption) ?h8a23_
        case hia23_ => (simp only [List.getElem?_toArray, List.getElem?_cons_succ, List.getElem?_cons_zero]; rfl)
        case h3a23_ => kernel_rfl
        case h4a23_ => kernel_rfl
        case h6a23_ => (refine Or.inl ⟨by rfl, ?_⟩; intro w hSw; (try dsimp only at hSw); (go_simp <;> with_reducible rfl))
        case h5a23_ => exact fun _ _ _ h => h
        try simp only [Act.put, List.setIfInBounds_toArray, List.set_cons_zero, List.set_cons_succ]
        refine wpAnyH_ready (rs := [4]) (by kernel_rfl) (by simp) (AllReadyH.cons (o := ?ooa24_q0) ?hia24_q0 (fun K hK => ?hka24_q0) AllReadyH.nil)
        case hia24_q0 => (simp only [List.getElem?_toArray, List.getElem?_cons_succ, List.getElem?_cons_zero]; rfl)
        case hka24_q0 =>
          (rw [if_pos (by rfl)]; go_simp; refine (C1.out _ (bel_tr HB.out hHeld.2)).mono ?_; rintro e q4 ⟨rfl, hb⟩; go_wp2_with fail; refine hK.out _ _ (HMK14.out _ (bel_tr hHeld.2 hb)) (fun hHeld => ?_); clear hK K)
          try simp only [Act.put, List.setIfInBounds_toArray, List.set_cons_zero, List.set_cons_succ]
          refine wpAnyH_ready (rs := [10]) (by kernel_rfl) (by simp) (AllReadyH.cons (o := ?ooa25_q0) ?hia25_q0 (fun K hK => ?hka25_q0) AllReadyH.nil)
          case hia25_q0 => (simp only [List.getElem?_toArray, List.getElem?_cons_succ, List.getElem?_cons_zero]; rfl)
          case hka25_q0 =>
            (rw [if_pos (by rfl)]; go_simp; refine (C2.out _ (bel_tr HB.out hHeld.2)).mono ?_; rintro e q10 ⟨rfl, hb⟩; go_wp2_with fail; refine hK.out _ _ (HMK14.out _ (bel_tr hHeld.2 hb)) (fun hHeld => ?_); clear hK K)
            try simp only [Act.put, List.setIfInBounds_toArray, List.set_cons_zero, List.set_cons_succ]
            refine wpAnyH_take (i := 11) (oi := ?ooa26_) (v := ?vva26_) ?hia26_ (by kernel_rfl) ?h3a26_ ?h4a26_ ?h5a26_ ?h6a26_ (by assumption) ?h8a26_
            case hia26_ => (simp only [List.getElem?_toArray, List.getElem?_cons_succ, List.getElem?_cons_zero]; rfl)
            case h3a26_ => kernel_rfl
            case h4a26_ => kernel_rfl
            case h6a26_ => (refine Or.inl ⟨by rfl, ?_⟩; intro w hSw; (try dsimp only at hSw); (go_simp <;> with_reducible rfl))
            case h5a26_ => exact fun _ _ _ h => h
            try simp only [Act.put, List.setIfInBounds_toArray, List.set_cons_zero, List.set_cons_succ]
            refine wpAnyH_done (by kernel_rfl) ?_ _
            clear HMK14
            have HX := Lib.hid (And.intro (HO.out.of_block hHeld.2) (bel_tr HB.out hHeld.2))
            clear hHeld
            go_wp2_with fail
            go_roundw
            case rel => exact ⟨j, L, R, by omega, hL, rfl, ⟨_, by go_num, by first | rfl | omega⟩, HX.out.1, HSN.out, HX.out.2⟩
            case measure => simp [intOf] <;> omega

set_option maxRecDepth 100000 in
set_option maxHeartbeats 8000000 in
/-- impl.PlotsNeed -/
theorem iPN (a b : Option Addr) (cap cb : Nat) (ps : List Pl) (ks : List Int) (w : World) (h : IsPl w a ps) (hb : IsInts w b ks) (hn : ps.length ≤ 1048576) (hk : ks.length ≤ 1048576) (hcb : ks.length ≤ cb) :
    Calls Try.prog 27 #[.slice a ps.length cap, .slice b ks.length cb] w fun e w' => e = .returned (.tuple #[.int .i64 (pnN ps ks), .int .i64 (pnY ps ks)]) ∧ Below w.heap.size w w' := by
  have CV := iVP a cap ps w h hn
  cases hv : vpB ps with
  | false =>
    rw [hv] at CV
    have hp := pn_no (ks := ks) (pn_no1 hv)
    rw [hp.1, hp.2]
    clear hv h hb hp
    go_enter Try.func27, Try.ntmps27
    go_wp2_with fail
    refine CV.mono ?_
    rintro e w1 ⟨rfl, C⟩
    clear CV
    go_wp2_with fail
    go_returns
    exact ⟨rfl, C⟩
  | true =>
  rw [hv] at CV
  have HNO : Hid (∀ k, k < ks.length → okP ps ks k = false → pnN ps ks = -1 ∧ pnY ps ks = -1) := fun k hk e => pn_no (pn_no2 hk e)
  have HYE : Hid ((∀ k, k < ks.length → okP ps ks k = true) → pnN ps ks = needS ps ks ∧ pnY ps ks = yldS ps ks) := fun e => pn_val (pn_yes hv e)
  have HBD : Hid (∀ l : List Int, l.length ≤ 1048576 → (∀ z ∈ l, 0 ≤ z ∧ z < (ps.length : Int)) → (0 ≤ needS ps l ∧ needS ps l ≤ 600000000) ∧ (0 ≤ yldS ps l ∧ yldS ps l ≤ 1100000000)) := fun l hl hz => by have := ptsum_bd hv l hz; omega
  have HVA : Hid (∀ k, k < ps.length → (0 ≤ (ps.getD k pl0).1 ∧ (ps.getD k pl0).1 ≤ 500) ∧ (1 ≤ (ps.getD k pl0).2 ∧ (ps.getD k pl0).2 ≤ 1000)) := fun k hk => vp_at hv hk
  clear hv
  rcases hb with rfl | ⟨gb, ob, rfl, hc⟩
  · obtain ⟨h1, h2⟩ := HYE.out (fun k hk => absurd hk (Nat.not_lt_zero _))
    rw [h1, h2]
    clear h
    go_enter Try.func27, Try.ntmps27
    go_wp2_with fail
    refine CV.mono ?_
    rintro e w1 ⟨rfl, C⟩
    clear CV
    go_wp2_with fail
    go_rounds 1
    go_returns
    exact ⟨rfl, C⟩
  have HKS := Lib.hid (show IsInts w (some ⟨gb, ob, none⟩) ks from .inr ⟨gb, ob, rfl, hc⟩)
  have HPS := Lib.hid h
  clear hc h
  go_enter Try.func27, Try.ntmps27
  go_wp2_with fail
  refine CV.mono ?_
  rintro e w1 ⟨rfl, C⟩
  have HC1 := Lib.hid C
  clear CV C
  go_wp2_with fail
  go_loopw [6, 7, 15] (fun s t i wr => ∃ k : Nat, k ≤ ks.length ∧ i = .int .i64 k ∧ s = .int .i64 (needS ps (ks.take k)) ∧ t = .int .i64 (yldS ps (ks.take k)) ∧ Hid (∀ j, j < k → okP ps ks j = true) ∧ wr = w1) (fun _ _ i _ => ks.length - (intOf i).toNat)
  case atStart => exact ⟨0, Nat.zero_le _, rfl, rfl, rfl, (fun j hj => absurd hj (Nat.not_lt_zero _)), rfl⟩
  case round =>
    obtain ⟨k, hkk, rfl, rfl, rfl, HA, rfl⟩ := hrel
    by_cases hlt : k < ks.length
    · have hks := ints_below HKS.out HC1.out
      rcases hks with hnil | ⟨gb2, ob2, he, hc⟩
      · rw [hnil] at hlt; exact absurd hlt (Nat.not_lt_zero _)
      injection he with he; injection he with he1 he2; subst he1 he2
      have hcell := hc k hlt
      have hin : ∀ z ∈ ks.take k, 0 ≤ z ∧ z < (ps.length : Int) := fun z hz => by
        obtain ⟨j, hj, rfl⟩ := List.mem_iff_getElem.1 hz
        rw [List.length_take] at hj
        have := (okP_iff.1 (HA.out j (by omega))).1
        rw [List.getD_eq_getElem?_getD, List.getElem?_eq_getElem (by omega)] at this
        rw [List.getElem_take]; exact this
      have hbd := HBD.out (ks.take k) (by rw [List.length_take]; omega) hin
      have hns := needS_snoc ps (ks.take k) (ks.getD k 0)
      have hys := yldS_snoc ps (ks.take k) (ks.getD k 0)
      rw [← take_snocZ ks hlt] at hns hys
      have hno : ks.getD k 0 < 0 ∨ (ps.length : Int) ≤ ks.getD k 0 ∨ ks.getD k 0 ∈ ks.take k → pnN ps ks = -1 ∧ pnY ps ks = -1 := fun e => HNO.out k hlt (okP_no e)
      have hyes : (0 ≤ ks.getD k 0 ∧ ks.getD k 0 < (ps.length : Int)) ∧ ks.getD k 0 ∉ ks.take k → ∀ j, j < k + 1 → okP ps ks j = true := fun e => rng_more HA.out (okP_iff.2 e)
      have CN := ihasN (some ⟨gb, ob, none⟩) cb k (ks.take k) (ks.getD k 0) wr (ints_takeP (.inr ⟨gb, ob, rfl, hc⟩) k) (by rw [List.length_take]; omega) (by omega)
      have k0 : (0 : Int) ≤ (k : Int) := by omega
      have kx : (k : Int) < (ks.length : Int) := by omega
      have kc : (k : Int) ≤ (cb : Int) := by omega
      generalize ks.getD k 0 = z at hcell hns hys hno hyes CN
      by_cases z0 : z < 0
      · have HV := Lib.hid (hno (Or.inl z0))
        have d0 : decide (z < 0) = true := decide_eq_true z0
        clear hc hin hbd hns hys hno hyes CN HA
        go_wp2_with fail
        go_returns
        exact ⟨by rw [HV.out.1, HV.out.2]; try rfl, HC1.out⟩
      have d0 : decide (z < 0) = false := decide_eq_false z0
      by_cases z1 : (ps.length : Int) ≤ z
      · have HV := Lib.hid (hno (Or.inr (Or.inl z1)))
        have d1 : decide ((ps.length : Int) ≤ z) = true := decide_eq_true z1
        clear hc hin hbd hns hys hno hyes CN HA
        go_wp2_with fail
        go_returns
        exact ⟨by rw [HV.out.1, HV.out.2]; try rfl, HC1.out⟩
      have d1 : decide ((ps.length : Int) ≤ z) = false := decide_eq_false z1
      by_cases z2 : z ∈ ks.take k
      · have HV := Lib.hid (hno (Or.inr (Or.inr z2)))
        rw [decide_eq_true z2] at CN
        clear hc hin hbd hns hys hno hyes HA z2
        go_wp2_with fail
        refine CN.mono ?_
        rintro e w' ⟨rfl, rfl⟩
        go_wp2_with fail
        go_returns
        exact ⟨by rw [HV.out.1, HV.out.2]; try rfl, HC1.out⟩
      rw [decide_eq_false z2] at CN
      obtain ⟨m, hm⟩ : ∃ m : Nat, z = (m : Int) := ⟨z.toNat, by omega⟩
      subst hm
      have hml : m < ps.length := by omega
      have HY := Lib.hid (hyes ⟨⟨by omega, by omega⟩, z2⟩)
      have hps := pl_below HPS.out HC1.out
      rcases hps with hnil | ⟨ga, oa, rfl, hcp⟩
      · rw [hnil] at hml; exact absurd hml (Nat.not_lt_zero _)
      obtain ⟨c0, c1⟩ := hcp m hml
      have hva := HVA.out m hml
      rw [show ((m : Int)).toNat = m from by omega] at hns hys
      generalize (ps.getD m pl0).1 = x0 at c0 hva hns
      generalize (ps.getD m pl0).2 = x1 at c1 hva hys
      generalize needS ps (ks.take k) = sN at hns hbd ⊢
      generalize yldS ps (ks.take k) = sY at hys hbd ⊢
      have w1_ : IntKind.i64.wrap (sN + x0) = sN + x0 := by rw [IntKind.wrap_i64]; omega
      have w2_ : IntKind.i64.wrap (sY + x1) = sY + x1 := by rw [IntKind.wrap_i64]; omega
      have m0 : (0 : Int) ≤ (m : Int) := by omega
      have mx : (m : Int) < (ps.length : Int) := by omega
      have HNS := Lib.hid hns
      have HYS := Lib.hid hys
      clear hc hcp hin hbd hns hys hno hyes HA z2 hva
      go_wp2_with fail
      refine CN.mono ?_
      rintro e w' ⟨rfl, rfl⟩
      go_wp2_with fail
      go_roundw
      case rel => exact ⟨k + 1, by omega, by go_num, by rw [HNS.out], by rw [HYS.out], HY.out, by first | exact trivial | rfl⟩
      case measure => simp [intOf]; omega
    · obtain rfl : k = ks.length := by omega
      obtain ⟨h1, h2⟩ := HYE.out HA.out
      rw [List.take_length]
      have HV := Lib.hid (And.intro h1 h2)
      clear h1 h2 HA
      go_wp2_with fail
      go_returns
      exact ⟨by rw [HV.out.1, HV.out.2]; try rfl, HC1.out⟩
end Go.Proofs.Ytigapnbpgbfbhac
