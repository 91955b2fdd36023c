/- Plots, by the model: yields, best plots and needs. Condition: at most 1048576 plots and indices. -/
import Derived.Test.YtigapnbpgbfbhacPloS
import Derived.Test.YtigapnbpgbfbhacPloJ
import Derived.Deep.RegionHeld3
import Derived.Deep.QuietTactic
namespace Go.Proofs.Ytigapnbpgbfbhac
open Go.RowKit
set_option linter.unusedSimpArgs false
set_option linter.unusedVariables false
set_option maxRecDepth 100000 in
set_option maxHeartbeats 8000000 in
/-- spec.BestYield -/
theorem sBY (a : Option Addr) (cap : Nat) (ps : List Pl) (q : Int) (w : World) (h : IsPl w a ps) (hn : ps.length ≤ 1048576) :
    Calls Try.prog 17 #[.slice a ps.length cap, .int .i64 q] w fun e w' => e = .returned (.int .i64 (byV ps q)) ∧ Below w.heap.size w w' := by
  have CV := svP a cap ps w h hn
  cases hv : vpB ps with
  | false =>
    rw [hv] at CV
    have HN : Hid (wpB ps q = false) := by show _ = _; unfold wpB; rw [hv]; rfl
    clear hv h
    go_enter Try.func17, Try.ntmps17
    go_wp2_with fail
    refine CV.mono ?_
    rintro e w1 ⟨rfl, C⟩
    clear CV
    go_wp2_with fail
    go_ret
    exact ⟨ret_int (byV_no HN.out).symm, C⟩
  | true =>
  rw [hv] at CV
  by_cases hq : 0 ≤ q ∧ q ≤ 500
  rotate_left
  · have HN : Hid (wpB ps q = false) := by
      show _ = _
      cases e : wpB ps q with
      | false => rfl
      | true => exact absurd (wp_is e).2 hq
    have hq2 : q < 0 ∨ 500 < q := by omega
    clear hv h hq
    go_enter Try.func17, Try.ntmps17
    go_wp2_with fail
    refine CV.mono ?_
    rintro e w1 ⟨rfl, C⟩
    clear CV
    go_wp2_with fail
    refine (inRange_no q 0 500 _ hq2).mono ?_
    rintro e w' ⟨rfl, rfl⟩
    go_wp2_with fail
    go_ret
    exact ⟨ret_int (byV_no HN.out).symm, C⟩
  have HW := Lib.hid (wp_yes hv hq.1 hq.2)
  obtain ⟨M, hM⟩ : ∃ M : Nat, q = (M : Int) := ⟨q.toNat, by omega⟩
  subst hM
  obtain ⟨V, hV⟩ : ∃ V, yT ps ps.length M = V := ⟨_, rfl⟩
  rw [byV_yes HW.out, hV]
  obtain ⟨q0, q1⟩ := hq
  have HVV := Lib.hid hV
  have HY : Hid (∀ W, Below w.heap.size w W → Calls Try.prog 45 #[.slice a ps.length cap, .int .i64 (M : Int)] W fun e w' => ∃ v, e = .returned v ∧ Tab w' W.heap.size v ps M (ps.length + 1) ∧ Below W.heap.size W w') := fun W hW => sYl a cap ps M W (pl_below h hW) hv (by omega)
  clear hv h HW hV
  go_enter Try.func17, Try.ntmps17
  go_wp2_with fail
  refine CV.mono ?_
  rintro e w1 ⟨rfl, C⟩
  clear CV
  go_wp2_with fail
  refine (inRange_yes (M : Int) 0 500 _ q0 q1).mono ?_
  rintro e w' ⟨rfl, rfl⟩
  go_wp2_with fail
  refine (HY.out _ C).mono ?_
  rintro e w2 ⟨v, rfl, hT, hB⟩
  obtain ⟨gt, ct, rfl⟩ := tab_form hT (by omega)
  obtain ⟨gj, cj, t1, t2, _⟩ := tab_at hT (j := ps.length) (by omega)
  have t3 := t2 M (Nat.le_refl _)
  rw [HVV.out] at t3
  have HB := Lib.hid (bel_tr C hB)
  have u0 : (0 : Int) ≤ (M : Int) := by omega
  have u1 : (M : Int) < (M : Int) + 1 := by omega
  have l0 : (0 : Int) ≤ (ps.length : Int) := by omega
  have l1 : (ps.length : Int) < (ps.length : Int) + 1 := by omega
  clear t2 hT hB C
  go_wp2_with fail
  go_ret
  exact ⟨rfl, HB.out⟩
set_option maxRecDepth 100000 in
set_option maxHeartbeats 8000000 in
/-- spec.bestPlots -/
theorem sbP (a : Option Addr) (cap : Nat) (ps : List Pl) (M : Nat) (w : World) (h : IsPl w a ps) (hv : vpB ps = true) (hM : M ≤ 500) :
    Calls Try.prog 46 #[.slice a ps.length cap, .int .i64 (M : Int)] w (OutI w (selTo ps ps.length M)) := by
  obtain ⟨i0, hi0, hz0, hz1, hz2⟩ := info_parts infoInt
  have l10 := (vp_is hv).1
  have CY := sYl a cap ps M w h hv hM
  have HNE : Hid (∀ (j L : Nat), yT ps j L < yT ps (j + 1) L → (ps.getD j pl0).1 ≤ (L : Int)) := fun j L e => (sel_need e).1
  have HVA : Hid (∀ k, k < ps.length → (0 ≤ (ps.getD k pl0).1 ∧ (ps.getD k pl0).1 ≤ 500)) := fun k hk => (vp_at hv hk).1
  have HIS := Lib.hid h
  clear hv h
  go_enter Try.func46, Try.ntmps46
  go_wp2_with fail
  refine CY.mono ?_
  rintro e w1 ⟨v, rfl, hT, C⟩
  obtain ⟨gt, ct, rfl⟩ := tab_form hT (by omega)
  have HT := Lib.hid hT
  have HC := Lib.hid C
  have HXX := Lib.hid (And.intro (OwnI.new C) (And.intro (C.alloc C.size (.cells #[] 3)) ((Below.refl w1.heap.size w1).alloc (Nat.le_refl _) (.cells #[] 3))))
  clear CY hT C
  go_wp2_with fail
  go_loopw [1, 6, 7] (fun l v i wr => ∃ (k L : Nat) (R : List Int), k ≤ ps.length ∧ L ≤ M ∧ l = .int .i64 (L : Int) ∧ i = .int .i64 (k : Int) ∧ OwnI wr w.heap.size v R ∧ selTo ps ps.length M = selTo ps k L ++ R ∧ Below w.heap.size w wr ∧ Below w1.heap.size w1 wr) (fun _ _ i _ => (intOf i).toNat)
  case atStart => exact ⟨ps.length, M, [], Nat.le_refl _, Nat.le_refl _, rfl, rfl, HXX.out.1, by simp, HXX.out.2.1, HXX.out.2.2⟩
  case round =>
    clear HXX
    obtain ⟨k, L, R, hk, hL, rfl, rfl, hO, hS, hB, hB1⟩ := hrel
    by_cases hk0 : k = 0
    · subst hk0
      obtain ⟨sa, sc, rfl, _⟩ := OwnI.ints hO
      have HX := Lib.hid (And.intro hO hB)
      have HS : Hid (selTo ps ps.length M = R) := hS
      clear hO hB hS hB1
      go_wp2_with fail
      go_ret
      exact ⟨_, rfl, by rw [HS.out]; exact HX.out.1, HX.out.2⟩
    · obtain ⟨j, hj⟩ : ∃ j, k = j + 1 := ⟨k - 1, by omega⟩
      have hjl : j < ps.length := by omega
      have hlR : R.length ≤ 10 := by
        have h1 := sel_len ps ps.length M
        rw [hS, List.length_append] at h1; omega
      have hva := HVA.out j hjl
      have hne := HNE.out j L
      have hsy : yT ps j L < yT ps (j + 1) L → selTo ps ps.length M = selTo ps j (L - (ps.getD j pl0).1.toNat) ++ ((j : Int) :: R) := fun e => by rw [hS, hj, sel_yes e, List.append_assoc]; rfl
      have hsn : ¬ yT ps j L < yT ps (j + 1) L → selTo ps ps.length M = selTo ps j L ++ R := fun e => by rw [hS, hj, sel_no e]
      have hTr := tab_below HT.out hB1
      obtain ⟨ga1, ca1, t1, t2, _⟩ := tab_at hTr (j := j) (by omega)
      obtain ⟨ga2, ca2, s1, s2, _⟩ := tab_at hTr (j := k) (by omega)
      have t3 := t2 L hL
      have s3 := s2 L hL
      have hj2 : (k : Int) - 1 = (j : Int) := by omega
      rw [hj] at s3
      have hpl := pl_below HIS.out hB
      rcases hpl with hnil | ⟨ga, oa, rfl, hc⟩
      · rw [hnil] at hjl; exact absurd hjl (Nat.not_lt_zero _)
      have hcc : ∀ W, Below wr.heap.size wr W → W.cell? ⟨ga, oa + j * 2, none⟩ = some (.int .i64 (ps.getD j pl0).1) := fun W hW => (hW.cell (p := ⟨ga, oa + j * 2, none⟩) (World.block_lt_of_cell? _ _ (hc j hjl).1)).trans (hc j hjl).1
      generalize yT ps j L = y1 at t3 hne hsy hsn
      generalize yT ps (j + 1) L = y2 at s3 hne hsy hsn
      generalize (ps.getD j pl0).1 = x0 at hva hne hsy hcc
      have HCC := Lib.hid hcc
      obtain ⟨sa, sc, rfl, _⟩ := OwnI.ints hO
      have HO := Lib.hid hO
      have HB := Lib.hid hB
      have HB1 := Lib.hid hB1
      have j0 : (0 : Int) ≤ (j : Int) := by omega
      have jx : (j : Int) < (ps.length : Int) := by omega
      have jt : (j : Int) < (ps.length : Int) + 1 := by omega
      have k0 : (0 : Int) ≤ (k : Int) := by omega
      have kt : (k : Int) < (ps.length : Int) + 1 := by omega
      have kp : (0 : Int) < (k : Int) := by omega
      have dk : decide ((0 : Int) < (k : Int)) = true := decide_eq_true kp
      have L0 : (0 : Int) ≤ (L : Int) := by omega
      have L1 : (L : Int) < (M : Int) + 1 := by omega
      have wj : IntKind.i64.wrap ((k : Int) - 1) = (j : Int) := by rw [IntKind.wrap_i64]; omega
      have HJ := Lib.hid hj
      clear hO hB hB1 hS hj hTr t2 s2 hc hcc hj2 hk0 hk
      by_cases c : y1 < y2
      · have e1 : decide (y1 < y2) = true := decide_eq_true c
        have hn2 := hne c
        obtain ⟨d, hd⟩ : ∃ d : Nat, x0 = (d : Int) := ⟨x0.toNat, by omega⟩
        subst hd
        have HSY : Hid (selTo ps ps.length M = selTo ps j (L - d) ++ ((j : Int) :: R)) := by
          have := hsy c
          rw [show ((d : Int)).toNat = d from by omega] at this; exact this
        have wd : IntKind.i64.wrap ((L : Int) - (d : Int)) = ((L - d : Nat) : Int) := by rw [IntKind.wrap_i64]; omega
        clear hsy hsn hne
        go_wp2_with fail
        go_quiet (fail)
        have hB9 := below_drewN HB.out nq
        have hB19 := below_drewN HB1.out nq
        have hBr := below_drewN (Below.refl wr.heap.size wr) nq
        have hO9 : OwnI (wr.drewN nq) w.heap.size (.slice sa R.length sc) R := HO.out
        generalize wr.drewN nq = wq at hB9 hB19 hBr hO9 ⊢
        have hsz := hB9.size
        have hsz1 := hB19.size
        have hszr := hBr.size
        have hrd := (Reads.of_own hO9).alloc (Nat.le_refl _) (.cells #[.int .i64 (j : Int)] 3)
        have hone := OwnI.one hB9 (j : Int)
        have h1c : ∀ u ∈ R.map (Value.int .i64), u.oneCell' = true := fun u hu => by obtain ⟨z, _, rfl⟩ := List.mem_map.1 hu; rfl
        have HBG : Hid (∀ W, (wq.alloc (.cells #[.int .i64 (j : Int)] 3)).grownBy W (some wq.heap.size) → Below w.heap.size w W ∧ Below w1.heap.size w1 W ∧ Below wr.heap.size wr W) := fun W hg => ⟨(hB9.alloc hsz _).grown hg (by simp; omega) (fun q hq => by have e : wq.heap.size = q := Option.some.inj hq; omega), (hB19.alloc hsz1 _).grown hg (by simp; omega) (fun q hq => by have e : wq.heap.size = q := Option.some.inj hq; omega), (hBr.alloc hszr _).grown hg (by simp; omega) (fun q hq => by have e : wq.heap.size = q := Option.some.inj hq; omega)⟩
        clear hB9 hO9 hB19 hBr t1 s1 t3 s3
        go_wp2_with (first | (at_builtin; refine wpList_append_any _ rfl (.tmp 36) (.tmp 37) _ rfl w.heap.size 3 i0 _ 1 8 Try.underlying31 hi0 hz0 hz1 hz2 rfl (by omega) _ 1 [.int .i64 (j : Int)] rfl hone wq.heap.size sa R.length sc (R.map (Value.int .i64)) rfl hrd h1c (by unfold maxLen; omega) (by omega) (by simp; omega) ?_; intro v3 w3 hown3 hgrow3 hat3; obtain ⟨hB3, hB13, hBr3⟩ := HBG.out w3 hgrow3; have hcell := HCC.out w3 hBr3; clear hrd hone h1c hgrow3 hat3 hBr3; replace hown3 := Lib.hid (OwnI.cons hown3); replace hB3 := Lib.hid hB3; replace hB13 := Lib.hid hB13))
        go_roundw
        case rel => exact ⟨j, L - d, (j : Int) :: R, by omega, by omega, by go_num, by go_num, hown3.out, HSY.out, hB3.out, hB13.out⟩
        case measure =>
          have := HJ.out
          simp [intOf, wj]; omega
      · have e1 : decide (y1 < y2) = false := decide_eq_false c
        have HSN := Lib.hid (hsn c)
        clear hsy hsn hne
        go_wp2_with fail
        go_quiet (fail)
        go_wp2_with fail
        go_roundw
        case rel => exact ⟨j, L, R, by omega, hL, rfl, by go_num, HO.out, HSN.out, below_drewN HB.out _, below_drewN HB1.out _⟩
        case measure =>
          have := HJ.out
          simp [intOf, wj]; omega
set_option maxRecDepth 100000 in
set_option maxHeartbeats 8000000 in
/-- spec.BestPlots -/
theorem sBP (a : Option Addr) (cap : Nat) (ps : List Pl) (q : Int) (w : World) (h : IsPl w a ps) (hn : ps.length ≤ 1048576) :
    Calls Try.prog 19 #[.slice a ps.length cap, .int .i64 q] w (OutI w (bpV ps q)) := by
  have CV := svP a cap ps w h hn
  cases hv : vpB ps with
  | false =>
    rw [hv] at CV
    have HN : Hid (wpB ps q = false) := by show _ = _; unfold wpB; rw [hv]; rfl
    clear hv h
    go_enter Try.func19, Try.ntmps19
    go_wp2_with fail
    refine CV.mono ?_
    rintro e w1 ⟨rfl, C⟩
    clear CV
    go_wp2_with fail
    go_ret
    rw [bpV_no HN.out]; exact outI_nil C
  | true =>
  rw [hv] at CV
  by_cases hq : 0 ≤ q ∧ q ≤ 500
  rotate_left
  · have HN : Hid (wpB ps q = false) := by
      show _ = _
      cases e : wpB ps q with
      | false => rfl
      | true => exact absurd (wp_is e).2 hq
    have hq2 : q < 0 ∨ 500 < q := by omega
    clear hv h hq
    go_enter Try.func19, Try.ntmps19
    go_wp2_with fail
    refine CV.mono ?_
    rintro e w1 ⟨rfl, C⟩
    clear CV
    go_wp2_with fail
    refine (inRange_no q 0 500 _ hq2).mono ?_
    rintro e w' ⟨rfl, rfl⟩
    go_wp2_with fail
    go_ret
    rw [bpV_no HN.out]; exact outI_nil C
  have HW := Lib.hid (wp_yes hv hq.1 hq.2)
  obtain ⟨M, hM⟩ : ∃ M : Nat, q = (M : Int) := ⟨q.toNat, by omega⟩
  subst hM
  rw [bpV_yes HW.out]
  obtain ⟨q0, q1⟩ := hq
  have HP : Hid (∀ W, Below w.heap.size w W → Calls Try.prog 46 #[.slice a ps.length cap, .int .i64 (M : Int)] W (OutI W (selTo ps ps.length M))) := fun W hW => sbP a cap ps M W (pl_below h hW) hv (by omega)
  generalize selTo ps ps.length M = R at HP ⊢
  clear hv h HW
  go_enter Try.func19, Try.ntmps19
  go_wp2_with fail
  refine CV.mono ?_
  rintro e w1 ⟨rfl, C⟩
  clear CV
  go_wp2_with fail
  refine (inRange_yes (M : Int) 0 500 _ q0 q1).mono ?_
  rintro e w' ⟨rfl, rfl⟩
  go_wp2_with fail
  refine (HP.out _ C).mono ?_
  rintro e w2 ⟨v, rfl, hO, hB⟩
  obtain ⟨sa, sc, rfl, _⟩ := OwnI.ints hO
  have HX := Lib.hid (And.intro (own_lower hO C.size) (bel_tr C hB))
  clear hO hB C
  go_wp2_with fail
  go_ret
  exact ⟨_, rfl, HX.out.1, HX.out.2⟩
set_option maxRecDepth 100000 in
set_option maxHeartbeats 8000000 in
/-- spec.PlotsNeed -/
theorem sPN (a b : Option Addr) (cap cb : Nat) (ps : List Pl) (ks : List Int) (w : World) (h : IsPl w a ps) (hb : IsInts w b ks) (hn : ps.length ≤ 1048576) (hk : ks.length ≤ 1048576) (hcb : ks.length ≤ cb) :
    Calls Try.prog 25 #[.slice a ps.length cap, .slice b ks.length cb] w fun e w' => e = .returned (.tuple #[.int .i64 (pnN ps ks), .int .i64 (pnY ps ks)]) ∧ Below w.heap.size w w' := by
  have CV := svP a cap ps w h hn
  cases hv : vpB ps with
  | false =>
    rw [hv] at CV
    have hp := pn_no (ks := ks) (pn_no1 hv)
    rw [hp.1, hp.2]
    clear hv h hb hp
    go_enter Try.func25, Try.ntmps25
    go_wp2_with fail
    refine CV.mono ?_
    rintro e w1 ⟨rfl, C⟩
    clear CV
    go_wp2_with fail
    go_returns
    exact ⟨rfl, C⟩
  | true =>
  rw [hv] at CV
  have HNO : Hid (∀ k, k < ks.length → okP ps ks k = false → pnN ps ks = -1 ∧ pnY ps ks = -1) := fun k hk e => pn_no (pn_no2 hk e)
  have HYE : Hid ((∀ k, k < ks.length → okP ps ks k = true) → pnN ps ks = needS ps ks ∧ pnY ps ks = yldS ps ks) := fun e => pn_val (pn_yes hv e)
  have HBD : Hid (∀ l : List Int, l.length ≤ 1048576 → (∀ z ∈ l, 0 ≤ z ∧ z < (ps.length : Int)) → (0 ≤ needS ps l ∧ needS ps l ≤ 600000000) ∧ (0 ≤ yldS ps l ∧ yldS ps l ≤ 1100000000)) := fun l hl hz => by have := ptsum_bd hv l hz; omega
  have HVA : Hid (∀ k, k < ps.length → (0 ≤ (ps.getD k pl0).1 ∧ (ps.getD k pl0).1 ≤ 500) ∧ (1 ≤ (ps.getD k pl0).2 ∧ (ps.getD k pl0).2 ≤ 1000)) := fun k hk => vp_at hv hk
  clear hv
  rcases hb with rfl | ⟨gb, ob, rfl, hc⟩
  · obtain ⟨h1, h2⟩ := HYE.out (fun k hk => absurd hk (Nat.not_lt_zero _))
    rw [h1, h2]
    clear h
    go_enter Try.func25, Try.ntmps25
    go_wp2_with fail
    refine CV.mono ?_
    rintro e w1 ⟨rfl, C⟩
    clear CV
    go_wp2_with fail
    go_rounds 1
    go_returns
    exact ⟨rfl, C⟩
  have HKS := Lib.hid (show IsInts w (some ⟨gb, ob, none⟩) ks from .inr ⟨gb, ob, rfl, hc⟩)
  have HPS := Lib.hid h
  have wn : IntKind.i64.wrap ((ps.length : Int) - 1) = (ps.length : Int) - 1 := by rw [IntKind.wrap_i64]; omega
  clear hc h
  go_enter Try.func25, Try.ntmps25
  go_wp2_with fail
  refine CV.mono ?_
  rintro e w1 ⟨rfl, C⟩
  have HC1 := Lib.hid C
  clear CV C
  go_wp2_with fail
  go_loopw [6, 7, 8] (fun s t i wr => ∃ k : Nat, k ≤ ks.length ∧ i = .int .i64 k ∧ s = .int .i64 (needS ps (ks.take k)) ∧ t = .int .i64 (yldS ps (ks.take k)) ∧ Hid (∀ j, j < k → okP ps ks j = true) ∧ Below w.heap.size w wr) (fun _ _ i _ => ks.length - (intOf i).toNat)
  case atStart => exact ⟨0, Nat.zero_le _, rfl, rfl, rfl, (fun j hj => absurd hj (Nat.not_lt_zero _)), HC1.out⟩
  case round =>
    clear HC1
    obtain ⟨k, hkk, rfl, rfl, rfl, HA, hB⟩ := hrel
    by_cases hlt : k < ks.length
    · have hks := ints_below HKS.out hB
      rcases hks with hnil | ⟨gb2, ob2, he, hc⟩
      · rw [hnil] at hlt; exact absurd hlt (Nat.not_lt_zero _)
      injection he with he; injection he with he1 he2; subst he1 he2
      have hcell := hc k hlt
      have hin : ∀ z ∈ ks.take k, 0 ≤ z ∧ z < (ps.length : Int) := fun z hz => by
        obtain ⟨j, hj, rfl⟩ := List.mem_iff_getElem.1 hz
        rw [List.length_take] at hj
        have := (okP_iff.1 (HA.out j (by omega))).1
        rw [List.getD_eq_getElem?_getD, List.getElem?_eq_getElem (by omega)] at this
        rw [List.getElem_take]; exact this
      have hbd := HBD.out (ks.take k) (by rw [List.length_take]; omega) hin
      have hns := needS_snoc ps (ks.take k) (ks.getD k 0)
      have hys := yldS_snoc ps (ks.take k) (ks.getD k 0)
      rw [← take_snocZ ks hlt] at hns hys
      have hno : ks.getD k 0 < 0 ∨ (ps.length : Int) ≤ ks.getD k 0 ∨ ks.getD k 0 ∈ ks.take k → pnN ps ks = -1 ∧ pnY ps ks = -1 := fun e => HNO.out k hlt (okP_no e)
      have hyes : (0 ≤ ks.getD k 0 ∧ ks.getD k 0 < (ps.length : Int)) ∧ ks.getD k 0 ∉ ks.take k → ∀ j, j < k + 1 → okP ps ks j = true := fun e => rng_more HA.out (okP_iff.2 e)
      have CN := fun (n : Nat) => splaceN (some ⟨gb, ob, none⟩) cb k (ks.take k) (ks.getD k 0) (wr.drewN n) (ints_takeP (.inr ⟨gb, ob, rfl, hc⟩) k) (by rw [List.length_take]; omega) (by omega)
      have hpc := plcN_casesP (ks.take k) (ks.getD k 0)
      obtain ⟨pv, hpv⟩ : ∃ pv, plcVN (ks.take k) (ks.getD k 0) = pv := ⟨_, rfl⟩
      rw [hpv] at CN hpc
      have KP := Lib.hid (fun (j : Nat) => Calls.quiet_of_same (w := wr) (n := j) ((CN j).mono (fun _ _ h => ⟨h.1, h.2.symm⟩)))
      have HB := Lib.hid hB
      have k0 : (0 : Int) ≤ (k : Int) := by omega
      have kx : (k : Int) < (ks.length : Int) := by omega
      have kc : (k : Int) ≤ (cb : Int) := by omega
      clear CN hpv hB
      generalize ks.getD k 0 = z at hcell hns hys hno hyes hpc KP
      by_cases c : z < 0 ∨ (ps.length : Int) - 1 < z
      · have HV := Lib.hid (hno (by omega))
        have KR := Lib.hid (fun (W : World) (j : Nat) => Calls.quiet_of_same (w := W) (n := j) ((inRange_no z 0 ((ps.length : Int) - 1) _ c).mono (fun _ _ h => ⟨h.1, h.2.symm⟩)))
        clear hc hin hbd hns hys hno hyes HA c hpc KP
        go_wp2_with fail
        go_quiet (first | (go_at_call_of 44 (Value.int .i64 z); exact KR.out _ _))
        go_wp2_with fail
        go_returns
        exact ⟨by rw [HV.out.1, HV.out.2]; try rfl, below_drewN HB.out _⟩
      have c0 : 0 ≤ z := by omega
      have c1 : z ≤ (ps.length : Int) - 1 := by omega
      have KR := Lib.hid (fun (W : World) (j : Nat) => Calls.quiet_of_same (w := W) (n := j) ((inRange_yes z 0 ((ps.length : Int) - 1) _ c0 c1).mono (fun _ _ h => ⟨h.1, h.2.symm⟩)))
      rcases hpc with ⟨z2, p, hp⟩ | ⟨z2, hp⟩
      · have HV := Lib.hid (hno (Or.inr (Or.inr z2)))
        subst hp
        have e1 : decide ((p : Int) ≥ 0) = true := decide_eq_true (by omega)
        have e2 : (0 : Int) ≤ (p : Int) := by omega
        clear hc hin hbd hns hys hno hyes HA z2 c
        go_wp2_with fail
        go_quiet (first | (go_at_call_of 44 (Value.int .i64 z); exact KR.out _ _) | (go_at_call_of 47 (Value.slice (some ⟨gb, ob, none⟩) k cb); exact KP.out _))
        go_wp2_with fail
        go_returns
        exact ⟨by rw [HV.out.1, HV.out.2]; try rfl, below_drewN HB.out _⟩
      subst hp
      obtain ⟨m, hm⟩ : ∃ m : Nat, z = (m : Int) := ⟨z.toNat, by omega⟩
      subst hm
      have hml : m < ps.length := by omega
      have HY := Lib.hid (hyes ⟨⟨by omega, by omega⟩, z2⟩)
      have hps := pl_below HPS.out HB.out
      rcases hps with hnil | ⟨ga, oa, rfl, hcp⟩
      · rw [hnil] at hml; exact absurd hml (Nat.not_lt_zero _)
      obtain ⟨c0', c1'⟩ := hcp m hml
      have hva := HVA.out m hml
      rw [show ((m : Int)).toNat = m from by omega] at hns hys
      generalize (ps.getD m pl0).1 = x0 at c0' hva hns
      generalize (ps.getD m pl0).2 = x1 at c1' hva hys
      generalize needS ps (ks.take k) = sN at hns hbd ⊢
      generalize yldS ps (ks.take k) = sY at hys hbd ⊢
      have w1_ : IntKind.i64.wrap (sN + x0) = sN + x0 := by rw [IntKind.wrap_i64]; omega
      have w2_ : IntKind.i64.wrap (sY + x1) = sY + x1 := by rw [IntKind.wrap_i64]; omega
      have m0 : (0 : Int) ≤ (m : Int) := by omega
      have mx : (m : Int) < (ps.length : Int) := by omega
      have HNS := Lib.hid hns
      have HYS := Lib.hid hys
      clear hc hcp hin hbd hns hys hno hyes HA z2 hva c
      go_wp2_with fail
      go_quiet (first | (go_at_call_of 44 (Value.int .i64 (m : Int)); exact KR.out _ _) | (go_at_call_of 47 (Value.slice (some ⟨gb, ob, none⟩) k cb); exact KP.out _))
      go_wp2_with fail
      go_roundw
      case rel => exact ⟨k + 1, by omega, by go_num, by rw [HNS.out], by rw [HYS.out], HY.out, below_drewN HB.out _⟩
      case measure => simp [intOf]; omega
    · obtain rfl : k = ks.length := by omega
      obtain ⟨h1, h2⟩ := HYE.out HA.out
      rw [List.take_length]
      have HV := Lib.hid (And.intro h1 h2)
      have HB := Lib.hid hB
      clear h1 h2 HA hB
      go_wp2_with fail
      go_returns
      exact ⟨by rw [HV.out.1, HV.out.2]; try rfl, HB.out⟩
end Go.Proofs.Ytigapnbpgbfbhac
