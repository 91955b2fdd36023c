/- Measures, by the program: which ones are valid, what is expected, missing and measured, and who is suspected. Condition: at most 1048576 nodes and numbers. -/
import Derived.Test.YtigapnbpgbfbhaaFlowJ
import Derived.Deep.RegionHeld3
import Derived.StillTailTactics
namespace Go.Proofs.Ytigapnbpgbfbhaa
open Go.RowKit
set_option linter.unusedSimpArgs false
set_option linter.unusedVariables false
theorem ilesserM (a b : Int) (w : World) :
    Calls Try.prog 55 #[.int .i64 a, .int .i64 b] w fun e w' => e = .returned (.int .i64 (min a b)) ∧ w = w' := by
  by_cases h : a < b
  · rw [show min a b = a from by omega]
    go_enter Try.func55, Try.ntmps55
    go_wp2_with fail
    go_ret
    exact ⟨rfl, rfl⟩
  · rw [show min a b = b from by omega]
    have e1 : decide (a < b) = false := decide_eq_false h
    clear h
    go_enter Try.func55, Try.ntmps55
    go_wp2_with fail
    go_ret
    exact ⟨rfl, rfl⟩
set_option maxRecDepth 100000 in
set_option maxHeartbeats 8000000 in
/-- impl.areNodeUnits -/
theorem iNU (a b : Option Addr) (cap cb : Nat) (ns : List Nd) (ms : List Int) (w : World) (h : IsNd w a ns) (hb : IsInts w b ms) (hn : ns.length ≤ 1048576) (hm : ms.length ≤ 1048576) (hcap : ns.length ≤ cap) :
    Calls Try.prog 46 #[.slice a ns.length cap, .slice b ms.length cb] w fun e w' => e = .returned (.bool (vmB ns ms)) ∧ Below w.heap.size w w' := by
  have VN := iVN a cap ns w h hn hcap
  have HBI := Lib.hid hb
  cases hv : vnB ns with
  | false =>
    rw [hv] at VN
    have HV : Hid (vmB ns ms = false) := by show _ = _; unfold vmB; rw [hv]; rfl
    clear hv h hb
    go_enter Try.func46, Try.ntmps46
    go_wp2_with fail
    refine VN.mono ?_
    rintro e w1 ⟨rfl, C⟩
    go_wp2_with fail
    go_ret
    exact ⟨ret_bool HV.out.symm, C⟩
  | true =>
  rw [hv] at VN
  by_cases hl : ms.length = ns.length
  · have HV : Hid (vmB ns ms = allB ms 500) := by show _ = _; unfold vmB; rw [hv, decide_eq_true hl]; rfl
    have e1 : ((ms.length : Int) == (ns.length : Int)) = true := by rw [hl]; exact beq_self_eq_true _
    have e2 : (ms.length == ns.length) = true := by rw [hl]; exact beq_self_eq_true _
    clear hv h hb hl
    go_enter Try.func46, Try.ntmps46
    go_wp2_with fail
    refine VN.mono ?_
    rintro e w1 ⟨rfl, C⟩
    have CA := iall b cb ms 500 w1 (ints_below HBI.out C) hm
    have HX := Lib.hid C
    clear C VN
    generalize allB ms 500 = t at CA HV
    go_wp2_with fail
    refine CA.mono ?_
    rintro e w' ⟨rfl, rfl⟩
    go_wp2_with fail
    go_ret
    exact ⟨ret_bool HV.out.symm, HX.out⟩
  · have HV : Hid (vmB ns ms = false) := by show _ = _; unfold vmB; rw [decide_eq_false hl]; simp
    have e1 : ((ms.length : Int) == (ns.length : Int)) = false := beq_eq_false_iff_ne.2 (by omega)
    have e2 : (ms.length == ns.length) = false := beq_eq_false_iff_ne.2 hl
    have e3 : ¬ (ms.length : Int) = (ns.length : Int) := by omega
    clear hv h hb
    go_enter Try.func46, Try.ntmps46
    go_wp2_with fail
    refine VN.mono ?_
    rintro e w1 ⟨rfl, C⟩
    go_wp2_with fail
    go_ret
    exact ⟨ret_bool HV.out.symm, C⟩
set_option maxRecDepth 100000 in
set_option maxHeartbeats 8000000 in
/-- impl.ExpectedAt -/
theorem iExp (a b : Option Addr) (cap cb : Nat) (ns : List Nd) (ms : List Int) (w : World) (h : IsNd w a ns) (hb : IsInts w b ms) (hn : ns.length ≤ 1048576) (hm : ms.length ≤ 1048576) (hcap : ns.length ≤ cap) :
    Calls Try.prog 18 #[.slice a ns.length cap, .slice b ms.length cb] w (OutI w (expV ns ms)) := by
  have CF := iNU a b cap cb ns ms w h hb hn hm hcap
  cases hvm : vmB ns ms with
  | false =>
    rw [hvm] at CF
    rw [expV_no hvm]
    clear hvm h hb
    go_enter Try.func18, Try.ntmps18
    go_wp2_with fail
    refine CF.mono ?_
    rintro e w1 ⟨rfl, C⟩
    go_wp2_with fail
    go_ret
    exact outI_nil C
  | true =>
  rw [hvm] at CF
  rw [expV_yes hvm]
  obtain ⟨hv, hml, hma⟩ := vm_is hvm
  obtain ⟨l1, l12, _⟩ := vn_is hv
  have hmk := run_make_row' (P := Try.prog) 23 3 (.int .i64 0) 8 Try.underlying23 infoInt rfl .i64 .i64 ns.length (by omega) (by omega)
  have HH := Lib.hid h
  have HV := Lib.hid hv
  have HVM := Lib.hid hvm
  have HML := Lib.hid hml
  have HMB : Hid (∀ j, 0 ≤ ms.getD j 0 ∧ ms.getD j 0 ≤ 500) := allM_get hma
  rcases h with rfl | ⟨g0, o, rfl, hc⟩
  · simp at l1
  rcases hb with rfl | ⟨gm, om, rfl, hmc⟩
  · simp at hml; omega
  have HMC := Lib.hid hmc
  have m0 := hmc 0 (by omega)
  rw [show om + 0 = om from rfl] at m0
  have i0 : (0 : Int) < (ns.length : Int) := by omega
  have i1 : (0 : Int) < (ms.length : Int) := by omega
  have n0 : 0 < ns.length := by omega
  have n1 : 0 < ms.length := by omega
  have HST : Hid (expTo ns ms 0 = (List.replicate ns.length 0).set 0 (ms.getD 0 0)) := rfl
  generalize ms.getD 0 0 = f0 at m0 HST
  clear hc hvm hv hml hmc hma
  go_enter Try.func18, Try.ntmps18
  go_wp2_with fail
  refine CF.mono ?_
  rintro e w1 ⟨rfl, C⟩
  clear CF
  have m1 := (C.cell (World.block_lt_of_cell? w _ m0)).trans m0
  have hM := OwnI.made C ns.length hn
  have hz := hM.cell (j := 0) (by rw [List.length_replicate]; omega)
  have hzf := hM.frozen 0
  have hO0 := hM.set_ 0 f0
  obtain ⟨g, hg⟩ : ∃ g, w1.heap.size = g := ⟨_, rfl⟩
  have hgw : w.heap.size ≤ g := by rw [← hg]; exact (C).size
  rw [hg] at hz hzf hO0
  rw [List.getD_eq_getElem?_getD, List.getElem?_replicate, if_pos (by omega)] at hz
  dsimp only [Option.getD_some] at hz
  have hB0 : Below w.heap.size w ((w1.alloc (.cells (madeCells #[.int .i64 0] ns.length) 3)).setCell ⟨g, 0, none⟩ (.int .i64 f0)) := ((C).alloc (C).size _).setCell (p := ⟨g, 0, none⟩) hgw _
  rw [World.setCell_alloc_at _ _ _ _ _ hg.symm] at hO0 hB0
  have HO0 := Lib.hid hO0
  have HB0 := Lib.hid hB0
  clear hM hO0 hB0
  have m2 : (w1.alloc (.cells (madeCells #[.int .i64 0] ns.length) 3)).cell? ⟨gm, om, none⟩ = some (.int .i64 f0) := (World.cell?_alloc_lt w1 _ _ (World.block_lt_of_cell? w1 _ m1)).trans m1
  clear C m0 m1
  rw [← HST.out] at HO0
  go_wp2_with fail
  clear hmk hz hzf m2
  clear hg
  go_loopw [23] (fun i wr => ∃ k : Nat, k ≤ ns.length ∧ i = .int .i64 k ∧ OwnI wr w.heap.size (.slice (some ⟨g, 0, none⟩) ns.length ns.length) (expTo ns ms k) ∧ Below w.heap.size w wr) (fun i _ => ns.length - (intOf i).toNat)
  case atStart => exact ⟨0, Nat.zero_le _, rfl, HO0.out, HB0.out⟩
  case round =>
    clear HO0 HB0
    obtain ⟨k, hk, rfl, hO, hB⟩ := hrel
    by_cases hlt : k < ns.length
    · have hgb := hO.blk
      have HBD : Hid (∀ j, 0 ≤ (expTo ns ms k).getD j 0 ∧ (expTo ns ms k).getD j 0 ≤ 500) := fun j => exp_bd HVM.out k hk j
      obtain ⟨hgc0, hcb⟩ : wr.cell? ⟨gm, om + k, none⟩ = some (.int .i64 (ms.getD k 0)) ∧ (0 ≤ ms.getD k 0 ∧ ms.getD k 0 ≤ 500) := ⟨(hB.cell (World.block_lt_of_cell? w _ (HMC.out k (by have := HML.out; omega)))).trans (HMC.out k (by have := HML.out; omega)), HMB.out k⟩
      have HNX := Lib.hid (expTo_succ ns ms k)
      obtain ⟨c, hc⟩ : ∃ c, ms.getD k 0 = c := ⟨_, rfl⟩
      rw [hc] at hgc0 hcb HNX
      have hgc := hgc0
      have km1 : (k : Int) < (ms.length : Int) := by have := HML.out; omega
      clear hc hgc0
      have CU := iUnits (some ⟨g0, o, none⟩) cap ns k c wr (nd_below HH.out hB) hn hcap HV.out hlt hcb
      have HUB : Hid (∀ j, 0 ≤ (unitsF ns k c).getD j 0 ∧ (unitsF ns k c).getD j 0 ≤ c) := unitsF_bd HV.out hlt hcb
      have hul : (unitsF ns k c).length = ns.length := unitsF_len ns k c
      have HO := Lib.hid hO
      have HB := Lib.hid hB
      have k0 : (0 : Int) ≤ (k : Int) := by omega
      have k1 : (k : Int) < (ns.length : Int) := by omega
      have hcl : (expTo ns ms k).length = ns.length := expTo_len ns ms k
      generalize unitsF ns k c = us at CU HNX HUB hul
      generalize expTo ns ms k = cs at HO HBD HNX hcl
      have HUL := Lib.hid hul
      have HCL := Lib.hid hcl
      clear hO hB hcl hul
      go_wp2_with fail
      refine CU.mono ?_
      rintro e w2 ⟨v, rfl, hU, C⟩
      obtain ⟨ub, uc, rfl, _⟩ := hU.ints
      have hO2 := HO.out.of_block C
      have hB2 := bel_tr HB.out C
      have s2 := C.size
      have HO2 := Lib.hid hO2
      have HB2 := Lib.hid hB2
      have HU := Lib.hid hU
      clear hO2 hB2 hU C CU hgc HO HB
      go_wp2_with fail
      go_loopw [34] (fun i wi => ∃ m : Nat, m ≤ us.length ∧ i = .int .i64 m ∧ Hid (OwnI wi w.heap.size (.slice (some ⟨g, 0, none⟩) ns.length ns.length) (accTo cs (fun j => cs.getD j 0 + us.getD j 0) m) ∧ w2.grownBy wi (some g))) (fun i _ => us.length - (intOf i).toNat)
      case atStart => exact ⟨0, Nat.zero_le _, rfl, by rw [accTo_zero]; exact HO2.out, g_of (Below.refl _ _) _⟩
      case round =>
        obtain ⟨m, hm, rfl, HM⟩ := hrel
        by_cases hlm : m < us.length
        · have hua := (HU.out.apart HM.out.2 (fun q hq => by have e := Option.some.inj hq; omega)).at_
          rcases hua with rfl | ⟨gu, ou, rfl, huc⟩
          · simp at hlm
          have c1 := huc m hlm
          have hml : m < cs.length := by have := HUL.out; have := HCL.out; omega
          have c3 := HM.out.1.cell (j := m) (by rw [accTo_len]; exact hml)
          rw [accTo_own _ hml] at c3
          have c4 := HM.out.1.frozen m
          have bu := HUB.out m
          have bc := HBD.out m

          have HS : Hid (∀ z, cs.getD m 0 + us.getD m 0 = z → OwnI (wr.setCell ⟨g, m, none⟩ (.int .i64 z)) w.heap.size (.slice (some ⟨g, 0, none⟩) ns.length ns.length) (accTo cs (fun j => cs.getD j 0 + us.getD j 0) (m + 1)) ∧ w2.grownBy (wr.setCell ⟨g, m, none⟩ (.int .i64 z)) (some g)) := fun z hz => by
            have hst := HM.out.1.set_ m (cs.getD m 0 + us.getD m 0)
            rw [accTo_succ (fun j => cs.getD j 0 + us.getD j 0) hml] at hst
            rw [hz] at hst
            exact ⟨hst, g_set2 HM.out.2⟩
          have b1 : (m : Int) < (ns.length : Int) := by have := HUL.out; omega
          have b2 : (m : Int) < (us.length : Int) := by omega
          have b4 : (0 : Int) ≤ (m : Int) := by omega
          generalize us.getD m 0 = x at c1 HS bu
          generalize cs.getD m 0 = y at c3 HS bc
          have wz : IntKind.i64.wrap (y + x) = y + x := by rw [IntKind.wrap_i64]; omega
          clear huc HM hml
          go_wp2_with fail
          go_roundw
          case rel => exact ⟨m + 1, by omega, by go_num, HS.out _ rfl⟩
          case measure => simp [intOf]; omega
        · have HE : Hid (OwnI wr w.heap.size (.slice (some ⟨g, 0, none⟩) ns.length ns.length) (expTo ns ms (k + 1)) ∧ Below w.heap.size w wr) := by
            refine ⟨?_, below_gv HB2.out HM.out.2 (fun q hq => by have e := Option.some.inj hq; omega)⟩
            have := HM.out.1
            have e1 := HUL.out
            rw [HNX.out, ← accTo_end (cs := cs) _ HCL.out]
            rw [show m = ns.length from by omega] at this
            exact this
          clear HM
          go_wp2_with fail
          go_roundw
          case rel => exact ⟨k + 1, by omega, by go_num, HE.out⟩
          case measure => simp [intOf]; omega
    · have HO := Lib.hid hO
      have HB := Lib.hid hB
      clear hO hB
      go_wp2_with fail
      go_ret
      exact ⟨_, rfl, by rw [show k = ns.length from by omega] at HO; exact HO.out, HB.out⟩
set_option maxRecDepth 100000 in
set_option maxHeartbeats 8000000 in
/-- impl.MissingAt -/
theorem iMis (a b : Option Addr) (cap cb : Nat) (ns : List Nd) (ms : List Int) (w : World) (h : IsNd w a ns) (hb : IsInts w b ms) (hn : ns.length ≤ 1048576) (hm : ms.length ≤ 1048576) (hcap : ns.length ≤ cap) :
    Calls Try.prog 25 #[.slice a ns.length cap, .slice b ms.length cb] w (OutI w (misV ns ms)) := by
  have CF := iNU a b cap cb ns ms w h hb hn hm hcap
  cases hvm : vmB ns ms with
  | false =>
    rw [hvm] at CF
    rw [misV_no hvm]
    clear hvm h hb
    go_enter Try.func25, Try.ntmps25
    go_wp2_with fail
    refine CF.mono ?_
    rintro e w1 ⟨rfl, C⟩
    go_wp2_with fail
    go_ret
    exact outI_nil C
  | true =>
  rw [hvm] at CF
  rw [misV_yes hvm]
  obtain ⟨hv, hml, hma⟩ := vm_is hvm
  obtain ⟨l1, l12, _⟩ := vn_is hv
  have hmk := run_make_row' (P := Try.prog) 23 3 (.int .i64 0) 8 Try.underlying23 infoInt rfl .i64 .i64 ns.length (by omega) (by omega)
  have HE : Hid (∀ W, Below w.heap.size w W → Calls Try.prog 18 #[.slice a ns.length cap, .slice b ms.length cb] W (OutI W (expF ns ms))) := fun W hW => by
    have := iExp a b cap cb ns ms W (nd_below h hW) (ints_below hb hW) hn hm hcap
    rw [expV_yes hvm] at this
    exact this
  have HML := Lib.hid hml
  have HMB : Hid (∀ j, 0 ≤ ms.getD j 0 ∧ ms.getD j 0 ≤ 500) := allM_get hma
  have HEB : Hid (∀ j, 0 ≤ (expF ns ms).getD j 0 ∧ (expF ns ms).getD j 0 ≤ 500) := exp_bd hvm ns.length (Nat.le_refl _)
  have hel := expF_len ns ms
  have HMF : Hid (misF ns ms = mkZ ns.length fun j => (expF ns ms).getD j 0 - ms.getD j 0) := rfl
  rcases hb with rfl | ⟨gm, om, rfl, hmc⟩
  · simp at hml; omega
  have HMC := Lib.hid hmc
  clear hmc h hvm hv hma hml
  generalize expF ns ms = es at HE HEB hel HMF
  have HEL := Lib.hid hel
  clear hel
  go_enter Try.func25, Try.ntmps25
  go_wp2_with fail
  refine CF.mono ?_
  rintro e w1 ⟨rfl, C⟩
  clear CF
  have hM := OwnI.made C ns.length hn
  obtain ⟨g, hg⟩ : ∃ g, w1.heap.size = g := ⟨_, rfl⟩
  have hgw : w.heap.size ≤ g := by rw [← hg]; exact C.size
  obtain ⟨w2, hw2⟩ : ∃ w2, w1.alloc (.cells (madeCells #[.int .i64 0] ns.length) 3) = w2 := ⟨_, rfl⟩
  have B2 : Below w.heap.size w w2 := by rw [← hw2]; exact C.alloc C.size _
  have hg2 : g < w2.heap.size := by rw [← hw2, ← hg]; simp
  rw [hw2, hg] at hM
  have HM := Lib.hid hM
  have CE := HE.out w2 B2
  have HB2 := Lib.hid B2
  clear hM B2 C
  go_wp2_with fail
  clear hmk hw2 hg
  refine CE.mono ?_
  rintro e w3 ⟨v, rfl, hU, C⟩
  obtain ⟨ub, uc, rfl, _⟩ := hU.ints
  have HO3 := Lib.hid (HM.out.of_block C)
  have HB3 := Lib.hid (bel_tr HB2.out C)
  have s3 := C.size
  have HU := Lib.hid hU
  have hrl : (List.replicate ns.length (0 : Int)).length = ns.length := List.length_replicate
  generalize List.replicate ns.length (0 : Int) = cs at HO3 hrl
  have HCL := Lib.hid hrl
  clear C CE hU HM HB2 HE hrl
  go_wp2_with fail
  go_loopw [19] (fun i wr => ∃ m : Nat, m ≤ es.length ∧ i = .int .i64 m ∧ Hid (OwnI wr w.heap.size (.slice (some ⟨g, 0, none⟩) ns.length ns.length) (accTo cs (fun j => es.getD j 0 - ms.getD j 0) m) ∧ w3.grownBy wr (some g))) (fun i _ => es.length - (intOf i).toNat)
  case atStart => exact ⟨0, Nat.zero_le _, rfl, by rw [accTo_zero]; exact HO3.out, g_of (Below.refl _ _) _⟩
  case round =>
    obtain ⟨m, hm, rfl, HM⟩ := hrel
    by_cases hlm : m < es.length
    · have hua := (HU.out.apart HM.out.2 (fun q hq => by have e := Option.some.inj hq; omega)).at_
      rcases hua with rfl | ⟨gu, ou, rfl, huc⟩
      · simp at hlm
      have c1 := huc m hlm
      have hml : m < cs.length := by have := HEL.out; have := HCL.out; omega
      have hmm : m < ms.length := by have := HEL.out; have := HML.out; omega
      have c3 := HM.out.1.cell (j := m) (by rw [accTo_len]; exact hml)
      rw [accTo_own _ hml] at c3
      have c4 := HM.out.1.frozen m
      have c5 := ((below_gv HB3.out HM.out.2 (fun q hq => by have e := Option.some.inj hq; omega)).cell (World.block_lt_of_cell? w _ (HMC.out m hmm))).trans (HMC.out m hmm)
      have bu := HEB.out m
      have bm := HMB.out m
      have HS : Hid (∀ z, es.getD m 0 - ms.getD m 0 = z → OwnI (wr.setCell ⟨g, m, none⟩ (.int .i64 z)) w.heap.size (.slice (some ⟨g, 0, none⟩) ns.length ns.length) (accTo cs (fun j => es.getD j 0 - ms.getD j 0) (m + 1)) ∧ w3.grownBy (wr.setCell ⟨g, m, none⟩ (.int .i64 z)) (some g)) := fun z hz => by
        have hst := HM.out.1.set_ m (es.getD m 0 - ms.getD m 0)
        rw [accTo_succ (fun j => es.getD j 0 - ms.getD j 0) hml] at hst
        rw [hz] at hst
        exact ⟨hst, g_set2 HM.out.2⟩
      have b1 : (m : Int) < (ns.length : Int) := by have := HEL.out; omega
      have b2 : (m : Int) < (es.length : Int) := by omega
      have b3 : (m : Int) < (ms.length : Int) := by omega
      have b4 : (0 : Int) ≤ (m : Int) := by omega
      generalize es.getD m 0 = x at c1 HS bu
      generalize ms.getD m 0 = y at c5 HS bm
      generalize cs.getD m 0 = y3 at c3
      have wz : IntKind.i64.wrap (x - y) = x - y := by rw [IntKind.wrap_i64]; omega
      clear huc HM hml hmm
      go_wp2_with fail
      go_roundw
      case rel => exact ⟨m + 1, by omega, by go_num, HS.out _ rfl⟩
      case measure => simp [intOf]; omega
    · have HE : Hid (OwnI wr w.heap.size (.slice (some ⟨g, 0, none⟩) ns.length ns.length) (misF ns ms) ∧ Below w.heap.size w wr) := by
        refine ⟨?_, below_gv HB3.out HM.out.2 (fun q hq => by have e := Option.some.inj hq; omega)⟩
        have := HM.out.1
        have e1 := HEL.out
        rw [HMF.out, ← accTo_end (cs := cs) _ HCL.out]
        rw [show m = ns.length from by omega] at this
        exact this
      clear HM
      go_wp2_with fail
      go_ret
      exact ⟨_, rfl, HE.out⟩
set_option maxRecDepth 100000 in
set_option maxHeartbeats 8000000 in
/-- impl.MeasuredWith -/
theorem iMea (a b : Option Addr) (cap cb : Nat) (ns : List Nd) (fl : Int) (ts : List Int) (w : World) (h : IsNd w a ns) (hb : IsInts w b ts) (hn : ns.length ≤ 1048576) (hm : ts.length ≤ 1048576) (hcap : ns.length ≤ cap) :
    Calls Try.prog 29 #[.slice a ns.length cap, .int .i64 fl, .slice b ts.length cb] w (OutI w (meaV ns fl ts)) := by
  have CF := icanFlow a cap ns fl w h hn hcap
  have HNU : Hid (∀ W, Below w.heap.size w W → Calls Try.prog 46 #[.slice a ns.length cap, .slice b ts.length cb] W fun e w' => e = .returned (.bool (vmB ns ts)) ∧ Below W.heap.size W w') := fun W hW => iNU a b cap cb ns ts W (nd_below h hW) (ints_below hb hW) hn hm hcap
  cases hfb : flB ns fl with
  | false =>
    rw [hfb] at CF
    rw [meaV_no (show vkB ns fl ts = false from by
      unfold vkB vmB; unfold flB at hfb
      rcases Bool.and_eq_false_iff.1 hfb with e | e
      · rw [e]; rfl
      · rw [e]; simp)]
    clear hfb h hb HNU
    go_enter Try.func29, Try.ntmps29
    go_wp2_with fail
    refine CF.mono ?_
    rintro e w1 ⟨rfl, C⟩
    go_wp2_with fail
    go_ret
    exact outI_nil C
  | true =>
  rw [hfb] at CF
  obtain ⟨hv, f0, f1⟩ := flB_is hfb
  cases hvm : vmB ns ts with
  | false =>
    rw [hvm] at HNU
    rw [meaV_no (show vkB ns fl ts = false from by unfold vkB; rw [hvm]; rfl)]
    clear hfb h hb hvm hv
    go_enter Try.func29, Try.ntmps29
    go_wp2_with fail
    refine CF.mono ?_
    rintro e w1 ⟨rfl, C⟩
    have CN := HNU.out w1 C
    have HX := Lib.hid C
    clear C CF
    go_wp2_with fail
    refine CN.mono ?_
    rintro e w2 ⟨rfl, C⟩
    go_wp2_with fail
    go_ret
    exact outI_nil (bel_tr HX.out C)
  | true =>
  rw [hvm] at HNU
  rw [meaV_yes (vk_yes hvm f0 f1)]
  obtain ⟨_, htl, hta⟩ := vm_is hvm
  obtain ⟨l1, l12, _⟩ := vn_is hv
  have hmk := run_make_row' (P := Try.prog) 23 3 (.int .i64 0) 8 Try.underlying23 infoInt rfl .i64 .i64 ns.length (by omega) (by omega)
  have HH := Lib.hid h
  have HV := Lib.hid hv
  have HTL := Lib.hid htl
  have HTB : Hid (∀ j, 0 ≤ ts.getD j 0 ∧ ts.getD j 0 ≤ 500) := allM_get hta
  rcases h with rfl | ⟨g0, o, rfl, hc⟩
  · simp at l1
  rcases hb with rfl | ⟨gt, ot, rfl, htc⟩
  · simp at htl; omega
  have HTC := Lib.hid htc
  have i0 : (0 : Int) < (ns.length : Int) := by omega
  have n0 : 0 < ns.length := by omega
  have HST : Hid (meaTo ns fl ts 0 = (List.replicate ns.length 0).set 0 fl) := rfl
  clear hc hvm hv htl htc hta hfb
  go_enter Try.func29, Try.ntmps29
  go_wp2_with fail
  refine CF.mono ?_
  rintro e w1 ⟨rfl, C⟩
  have CN := HNU.out w1 C
  have HX := Lib.hid C
  clear C CF
  go_wp2_with fail
  refine CN.mono ?_
  rintro e w2 ⟨rfl, C⟩
  replace C := bel_tr HX.out C
  clear CN HX HNU
  have hM := OwnI.made C ns.length hn
  have hz := hM.cell (j := 0) (by rw [List.length_replicate]; omega)
  have hzf := hM.frozen 0
  have hO0 := hM.set_ 0 fl
  obtain ⟨g, hg⟩ : ∃ g, w2.heap.size = g := ⟨_, rfl⟩
  have hgw : w.heap.size ≤ g := by rw [← hg]; exact (C).size
  rw [hg] at hz hzf hO0
  rw [List.getD_eq_getElem?_getD, List.getElem?_replicate, if_pos (by omega)] at hz
  dsimp only [Option.getD_some] at hz
  have hB0 : Below w.heap.size w ((w2.alloc (.cells (madeCells #[.int .i64 0] ns.length) 3)).setCell ⟨g, 0, none⟩ (.int .i64 fl)) := ((C).alloc (C).size _).setCell (p := ⟨g, 0, none⟩) hgw _
  rw [World.setCell_alloc_at _ _ _ _ _ hg.symm] at hO0 hB0
  have HO0 := Lib.hid hO0
  have HB0 := Lib.hid hB0
  clear hM hO0 hB0
  clear C
  rw [← HST.out] at HO0
  go_wp2_with fail
  clear hmk hz hzf
  clear hg
  go_loopw [29] (fun i wr => ∃ k : Nat, k ≤ ns.length ∧ i = .int .i64 k ∧ OwnI wr w.heap.size (.slice (some ⟨g, 0, none⟩) ns.length ns.length) (meaTo ns fl ts k) ∧ Below w.heap.size w wr) (fun i _ => ns.length - (intOf i).toNat)
  case atStart => exact ⟨0, Nat.zero_le _, rfl, HO0.out, HB0.out⟩
  case round =>
    clear HO0 HB0
    obtain ⟨k, hk, rfl, hO, hB⟩ := hrel
    by_cases hlt : k < ns.length
    · have hgb := hO.blk
      have HBD : Hid (∀ j, 0 ≤ (meaTo ns fl ts k).getD j 0 ∧ (meaTo ns fl ts k).getD j 0 ≤ 500) := fun j => mea_bd HV.out ⟨f0, f1⟩ (fun j => (HTB.out j).1) k hk j
      have hgc := hO.cell (j := k) (by rw [meaTo_len]; exact hlt)
      have hcb := HBD.out k
      have HNX := Lib.hid (meaTo_succ ns fl ts k)
      obtain ⟨c, hc⟩ : ∃ c, (meaTo ns fl ts k).getD k 0 = c := ⟨_, rfl⟩
      rw [hc] at hgc hcb HNX
      clear hc
      have CU := iUnits (some ⟨g0, o, none⟩) cap ns k c wr (nd_below HH.out hB) hn hcap HV.out hlt hcb
      have HUB : Hid (∀ j, 0 ≤ (unitsF ns k c).getD j 0 ∧ (unitsF ns k c).getD j 0 ≤ c) := unitsF_bd HV.out hlt hcb
      have hul : (unitsF ns k c).length = ns.length := unitsF_len ns k c
      have HO := Lib.hid hO
      have HB := Lib.hid hB
      have k0 : (0 : Int) ≤ (k : Int) := by omega
      have k1 : (k : Int) < (ns.length : Int) := by omega
      have hcl : (meaTo ns fl ts k).length = ns.length := meaTo_len ns fl ts k
      generalize unitsF ns k c = us at CU HNX HUB hul
      generalize meaTo ns fl ts k = cs at HO HBD HNX hcl
      have HUL := Lib.hid hul
      have HCL := Lib.hid hcl
      clear hO hB hcl hul
      go_wp2_with fail
      refine CU.mono ?_
      rintro e w2 ⟨v, rfl, hU, C⟩
      obtain ⟨ub, uc, rfl, _⟩ := hU.ints
      have hO2 := HO.out.of_block C
      have hB2 := bel_tr HB.out C
      have s2 := C.size
      have HO2 := Lib.hid hO2
      have HB2 := Lib.hid hB2
      have HU := Lib.hid hU
      clear hO2 hB2 hU C CU hgc HO HB
      go_wp2_with fail
      go_loopw [40] (fun i wi => ∃ m : Nat, m ≤ us.length ∧ i = .int .i64 m ∧ Hid (OwnI wi w.heap.size (.slice (some ⟨g, 0, none⟩) ns.length ns.length) (accTo cs (fun j => cs.getD j 0 + us.getD j 0 - min (us.getD j 0) (ts.getD j 0)) m) ∧ w2.grownBy wi (some g))) (fun i _ => us.length - (intOf i).toNat)
      case atStart => exact ⟨0, Nat.zero_le _, rfl, by rw [accTo_zero]; exact HO2.out, g_of (Below.refl _ _) _⟩
      case round =>
        obtain ⟨m, hm, rfl, HM⟩ := hrel
        by_cases hlm : m < us.length
        · have hua := (HU.out.apart HM.out.2 (fun q hq => by have e := Option.some.inj hq; omega)).at_
          rcases hua with rfl | ⟨gu, ou, rfl, huc⟩
          · simp at hlm
          have c1 := huc m hlm
          have hml : m < cs.length := by have := HUL.out; have := HCL.out; omega
          have c3 := HM.out.1.cell (j := m) (by rw [accTo_len]; exact hml)
          rw [accTo_own _ hml] at c3
          have c4 := HM.out.1.frozen m
          have bu := HUB.out m
          have bc := HBD.out m
          have hmt : m < ts.length := by have := HUL.out; have := HTL.out; omega
          have c5 := ((below_gv HB2.out HM.out.2 (fun q hq => by have e := Option.some.inj hq; omega)).cell (World.block_lt_of_cell? w _ (HTC.out m hmt))).trans (HTC.out m hmt)
          have bt := HTB.out m
          have b3 : (m : Int) < (ts.length : Int) := by omega
          have HS : Hid (∀ z, cs.getD m 0 + us.getD m 0 - min (us.getD m 0) (ts.getD m 0) = z → OwnI (wr.setCell ⟨g, m, none⟩ (.int .i64 z)) w.heap.size (.slice (some ⟨g, 0, none⟩) ns.length ns.length) (accTo cs (fun j => cs.getD j 0 + us.getD j 0 - min (us.getD j 0) (ts.getD j 0)) (m + 1)) ∧ w2.grownBy (wr.setCell ⟨g, m, none⟩ (.int .i64 z)) (some g)) := fun z hz => by
            have hst := HM.out.1.set_ m (cs.getD m 0 + us.getD m 0 - min (us.getD m 0) (ts.getD m 0))
            rw [accTo_succ (fun j => cs.getD j 0 + us.getD j 0 - min (us.getD j 0) (ts.getD j 0)) hml] at hst
            rw [hz] at hst
            exact ⟨hst, g_set2 HM.out.2⟩
          have b1 : (m : Int) < (ns.length : Int) := by have := HUL.out; omega
          have b2 : (m : Int) < (us.length : Int) := by omega
          have b4 : (0 : Int) ≤ (m : Int) := by omega
          generalize us.getD m 0 = x at c1 HS bu
          generalize cs.getD m 0 = y at c3 HS bc
          generalize ts.getD m 0 = t at c5 HS bt
          have CL := fun W => ilesserM x t W
          have bmn : 0 ≤ min x t ∧ min x t ≤ x := by omega
          have wz : IntKind.i64.wrap (y + x) = y + x := by rw [IntKind.wrap_i64]; omega
          generalize min x t = q at CL HS bmn
          have wy : IntKind.i64.wrap (y + x - q) = y + x - q := by rw [IntKind.wrap_i64]; omega
          have c1d : wr.drew.cell? ⟨g, m, none⟩ = some (.int .i64 y) := c3
          have c5d : wr.drew.cell? ⟨gt, ot + m, none⟩ = some (.int .i64 t) := c5
          clear huc HM hml
          go_wp2_with fail
          refine wp_region_still_tail 16 (by kernel_rfl) (by kernel_rfl) ?_
          simp only [List.take_succ_cons, List.take_zero, List.drop_succ_cons, List.drop_zero]
          iterate 13 still_step
          still_call ((CL _).mono (fun _ _ h => ⟨h.1, h.2.symm⟩))
          iterate 2 still_step
          refine wpStill_nil ?_
          change wpList _ _ _ _ _ wr.drew
          have HSD : Hid (∀ z, y + x - q = z → OwnI (wr.drew.setCell ⟨g, m, none⟩ (.int .i64 z)) w.heap.size (.slice (some ⟨g, 0, none⟩) ns.length ns.length) (accTo cs (fun j => cs.getD j 0 + us.getD j 0 - min (us.getD j 0) (ts.getD j 0)) (m + 1)) ∧ w2.grownBy (wr.drew.setCell ⟨g, m, none⟩ (.int .i64 z)) (some g)) := fun z hz => ⟨(HS.out z hz).1, (let h := (HS.out z hz).2; ⟨h.os, h.tape, h.output, h.size, h.block⟩)⟩
          clear HS
          go_wp2_with fail
          go_roundw
          case rel => exact ⟨m + 1, by omega, by go_num, HSD.out _ rfl⟩
          case measure => simp [intOf]; omega
        · have HE : Hid (OwnI wr w.heap.size (.slice (some ⟨g, 0, none⟩) ns.length ns.length) (meaTo ns fl ts (k + 1)) ∧ Below w.heap.size w wr) := by
            refine ⟨?_, below_gv HB2.out HM.out.2 (fun q hq => by have e := Option.some.inj hq; omega)⟩
            have := HM.out.1
            have e1 := HUL.out
            rw [HNX.out, ← accTo_end (cs := cs) _ HCL.out]
            rw [show m = ns.length from by omega] at this
            exact this
          clear HM
          go_wp2_with fail
          go_roundw
          case rel => exact ⟨k + 1, by omega, by go_num, HE.out⟩
          case measure => simp [intOf]; omega
    · have HO := Lib.hid hO
      have HB := Lib.hid hB
      clear hO hB
      go_wp2_with fail
      go_ret
      exact ⟨_, rfl, by rw [show k = ns.length from by omega] at HO; exact HO.out, HB.out⟩
end Go.Proofs.Ytigapnbpgbfbhaa
