/- Suspects by the program; what is expected and missing, and suspects, by the model. Condition: at most 1048576 nodes and numbers. -/
import Derived.Test.YtigapnbpgbfbhaaMeaI
import Derived.Test.YtigapnbpgbfbhaaMeaS
import Derived.Deep.RegionHeld3
import Derived.StillTailTactics
import Derived.Deep.QuietTactic
import Derived.BigQuiet
namespace Go.Proofs.Ytigapnbpgbfbhaa
open Go.RowKit
set_option linter.unusedSimpArgs false
set_option linter.unusedVariables false
set_option maxRecDepth 100000 in
set_option maxHeartbeats 8000000 in
/-- impl.SuspectsOf -/
theorem iSus (a b : Option Addr) (cap cb : Nat) (ns : List Nd) (ms : List Int) (s : Int) (w : World) (h : IsNd w a ns) (hb : IsInts w b ms) (hn : ns.length ≤ 1048576) (hm : ms.length ≤ 1048576) (hcap : ns.length ≤ cap) :
    Calls Try.prog 27 #[.slice a ns.length cap, .slice b ms.length cb, .int .i64 s] w (OutI w (susV ns ms s)) := by
  obtain ⟨i0, hi0, hz0, hz1, hz2⟩ := info_parts infoInt
  have CM := iNU a b cap cb ns ms w h hb hn hm hcap
  cases hvm : vmB ns ms with
  | false =>
    rw [hvm] at CM
    rw [susV_no (show vsB ns ms s = false from by unfold vsB; rw [hvm]; rfl)]
    clear hvm h hb
    go_enter Try.func27, Try.ntmps27
    go_wp2_with fail
    refine CM.mono ?_
    rintro e w1 ⟨rfl, C⟩
    go_wp2_with fail
    go_ret
    exact outI_nil C
  | true =>
  rw [hvm] at CM
  by_cases hs : 0 ≤ s ∧ s ≤ 500
  rotate_left
  · rw [susV_no (show vsB ns ms s = false from by cases e : vsB ns ms s with | false => rfl | true => exact absurd (vs_is e).2 hs)]
    clear hvm h hb
    go_enter Try.func27, Try.ntmps27
    go_wp2_with fail
    refine CM.mono ?_
    rintro e w1 ⟨rfl, C⟩
    go_wp2_with fail
    refine (iwithin_no s 500 _ (by omega)).mono ?_
    rintro e w' ⟨rfl, rfl⟩
    go_wp2_with fail
    go_ret
    exact outI_nil C
  rw [susV_yes (vs_yes hvm hs.1 hs.2)]
  have HE : Hid (∀ W, Below w.heap.size w W → Calls Try.prog 25 #[.slice a ns.length cap, .slice b ms.length cb] W (OutI W (misF ns ms))) := fun W hW => by
    have := iMis a b cap cb ns ms W (nd_below h hW) (ints_below hb hW) hn hm hcap
    rw [misV_yes hvm] at this
    exact this
  have hzl := misF_len ns ms
  have HN1 := Lib.hid (vn_is (vm_is hvm).1).1
  have HZB := Lib.hid (misF_bd hvm)
  generalize misF ns ms = zs at HE hzl HZB
  have HZL := Lib.hid hzl
  clear hvm h hb hzl
  go_enter Try.func27, Try.ntmps27
  go_wp2_with fail
  refine CM.mono ?_
  rintro e w1 ⟨rfl, C⟩
  clear CM
  go_wp2_with fail
  refine (iwithin_yes s 500 _ hs.1 hs.2).mono ?_
  rintro e w' ⟨rfl, rfl⟩
  have CE := HE.out _ (C.alloc C.size (.cells #[] 3))
  have HO1 := Lib.hid (OwnI.new C)
  have HB1 := Lib.hid (C.alloc C.size (.cells #[] 3))
  clear C HE
  go_wp2_with fail
  refine CE.mono ?_
  rintro e w2 ⟨v, rfl, hU, C⟩
  obtain ⟨zb, zc, rfl, _⟩ := hU.ints
  obtain ⟨gz, rfl, hz1_⟩ := hU.form_ (by have := HZL.out; have := HN1.out; omega)
  have hzb : gz < w2.heap.size := hU.blk.2
  obtain ⟨B1, hB1⟩ : ∃ B1, (w1.alloc (.cells #[] 3)).heap.size = B1 := ⟨_, rfl⟩
  have hq0 : w1.heap.size < B1 := by rw [← hB1]; simp
  rw [hB1] at hU hz1_
  have HO2 := Lib.hid (HO1.out.of_block C)
  have HBW := Lib.hid (bel_tr HB1.out C)
  have HU := Lib.hid hU
  clear C CE hU HO1 HB1 hB1
  go_wp2_with fail
  go_loopw [7, 24] (fun v i wr => ∃ k : Nat, k ≤ zs.length ∧ i = .int .i64 k ∧ OwnI wr w.heap.size v (susTo zs s k) ∧ Hid (OwnI wr B1 (.slice (some ⟨gz, 0, none⟩) zs.length zc) zs ∧ (∀ q, v.ownBlock = some q → q < B1 ∨ w2.heap.size ≤ q) ∧ w2.heap.size ≤ wr.heap.size ∧ Below w.heap.size w wr)) (fun _ i _ => zs.length - (intOf i).toNat)
  case atStart => exact ⟨0, Nat.zero_le _, rfl, HO2.out, HU.out, (fun q hq => by have e : w1.heap.size = q := Option.some.inj hq; omega), Nat.le_refl _, HBW.out⟩
  case round =>
    clear HO2
    obtain ⟨k, hk, rfl, hO, HI⟩ := hrel
    by_cases hlt : k < zs.length
    · have hll := susTo_len zs s k
      have HY := Lib.hid (susTo_yes (zs := zs) (s := s) (k := k))
      have HNO := Lib.hid (susTo_no (zs := zs) (s := s) (k := k))
      have hnz : zs.length ≤ 1048576 := by have := HZL.out; omega
      have c1 := HI.out.1.cell hlt
      obtain ⟨x, hx⟩ : ∃ x, zs.getD k 0 = x := ⟨_, rfl⟩
      rw [hx] at c1
      have HX0 := Lib.hid hx
      clear hx
      have k0 : (0 : Int) ≤ (k : Int) := by omega
      have k1 : (k : Int) < (zs.length : Int) := by omega
      generalize susTo zs s k = L at hO hll HY HNO
      have HO := Lib.hid hO
      by_cases p : s < x
      · have e1 : decide (s < x) = true := decide_eq_true p
        have HR := Lib.hid (HY.out (by rw [HX0.out]; exact p))
        clear HY HNO
        have hO2 := hO
        have hsz : w.heap.size ≤ wr.heap.size := HI.out.2.2.2.size
        have hl2 : L.length ≤ 1048576 := by omega
        clear hO
        go_wp2_with (first | (at_builtin; refine wpList_append_own_at _ rfl (.tmp 32) (.tmp 34) _ rfl w.heap.size 3 i0 (.int .i64 0) 1 8 Try.underlying23 hi0 hz0 hz1 hz2 rfl (by decide) _ _ _ rfl (hO2.alloc _) ⟨wr.heap.size, 0, none⟩ 1 1 [.int .i64 (k : Int)] rfl rfl (cell_one_new _ _ _) (fun x hx => by simp at hx; subst hx; rfl) (by unfold maxLen; omega) (by omega) (by simp; omega) ?_; intro v3 w3 hown3 hgrow3 hnil3 hat3))
        have HX : Hid (OwnI w3 w.heap.size v3 (L ++ [(k : Int)]) ∧ Hid (OwnI w3 B1 (.slice (some ⟨gz, 0, none⟩) zs.length zc) zs ∧ (∀ q, v3.ownBlock = some q → q < B1 ∨ w2.heap.size ≤ q) ∧ w2.heap.size ≤ w3.heap.size ∧ Below w.heap.size w w3)) := by
          have ga := (Below.refl wr.heap.size wr).alloc (Nat.le_refl _) (.cells #[.int .i64 (k : Int)] 3)
          have hgs0 := hgrow3.size
          rw [World.size_alloc] at hgs0
          have hgs : wr.heap.size + 1 ≤ w3.heap.size := hgs0
          refine ⟨OwnI.snoc hown3, OwnI.grown (OwnI.of_block (w := wr) (show OwnI wr B1 _ zs from HI.out.1) ga) hgrow3 (fun c => by have := HI.out.2.1 gz c.symm; omega), (fun q hq => ?_), by have := HI.out.2.2.1; omega, (HI.out.2.2.2.alloc hsz _).grown hgrow3 (by simp; omega) HO.out.grow⟩
          rcases hat3 with e | e
          · exact HI.out.2.1 q (e ▸ hq)
          · rw [e] at hq
            have e2 := Option.some.inj hq
            have := HI.out.2.2.1
            simp at e2; omega
        clear hO2 hown3 hgrow3 hnil3 hat3
        go_roundw
        case rel => exact ⟨k + 1, by omega, by go_num, by rw [HR.out]; exact HX.out.1, HX.out.2⟩
        case measure => simp [intOf]; omega
      · have e1 : decide (s < x) = false := decide_eq_false p
        have HR := Lib.hid (HNO.out (by rw [HX0.out]; exact p))
        clear HY HNO hO
        go_wp2_with fail
        go_roundw
        case rel => exact ⟨k + 1, by omega, by go_num, by rw [HR.out]; exact HO.out, HI.out⟩
        case measure => simp [intOf]; omega
    · have HX : Hid (OwnI wr w.heap.size u7 (susTo zs s ns.length) ∧ Below w.heap.size w wr) := ⟨by rw [← HZL.out, show zs.length = k from by omega]; exact hO, HI.out.2.2.2⟩
      clear hO HI
      go_wp2_with fail
      go_ret
      exact ⟨_, rfl, HX.out⟩
set_option maxRecDepth 100000 in
set_option maxHeartbeats 8000000 in
/-- spec.ExpectedAt -/
theorem sExp (a b : Option Addr) (cap cb : Nat) (ns : List Nd) (ms : List Int) (w : World) (h : IsNd w a ns) (hb : IsInts w b ms) (hn : ns.length ≤ 1048576) (hm : ms.length ≤ 1048576) :
    Calls Try.prog 15 #[.slice a ns.length cap, .slice b ms.length cb] w (OutI w (expV ns ms)) := by
  have CM := svM a b cap cb ns ms w h hb hn hm
  cases hvm : vmB ns ms with
  | false =>
    rw [hvm] at CM
    rw [expV_no hvm]
    clear hvm h hb
    go_enter Try.func15, Try.ntmps15
    go_wp2_with fail
    refine CM.mono ?_
    rintro e w1 ⟨rfl, C⟩
    go_wp2_with fail
    go_ret
    exact outI_nil C
  | true =>
  rw [hvm] at CM
  rw [expV_yes hvm]
  have HE : Hid (∀ W, Below w.heap.size w W → Calls Try.prog 44 #[.slice a ns.length cap, .slice b ms.length cb] W (OutI W (expF ns ms))) := fun W hW => sExpd a b cap cb ns ms W (nd_below h hW) (ints_below hb hW) hvm
  clear hvm h hb
  go_enter Try.func15, Try.ntmps15
  go_wp2_with fail
  refine CM.mono ?_
  rintro e w1 ⟨rfl, C⟩
  have CE := HE.out w1 C
  have HX := Lib.hid C
  clear C CM
  go_wp2_with fail
  refine CE.mono ?_
  rintro e w2 ⟨v, rfl, hU, C⟩
  have HU := Lib.hid (own_lower hU HX.out.size)
  have HX2 := Lib.hid (bel_tr HX.out C)
  clear hU C
  go_wp2_with fail
  go_ret
  exact ⟨_, rfl, HU.out, HX2.out⟩
set_option maxRecDepth 100000 in
set_option maxHeartbeats 8000000 in
/-- spec.MissingAt -/
theorem sMis (a b : Option Addr) (cap cb : Nat) (ns : List Nd) (ms : List Int) (w : World) (h : IsNd w a ns) (hb : IsInts w b ms) (hn : ns.length ≤ 1048576) (hm : ms.length ≤ 1048576) :
    Calls Try.prog 24 #[.slice a ns.length cap, .slice b ms.length cb] w (OutI w (misV ns ms)) := by
  have CM := svM a b cap cb ns ms w h hb hn hm
  cases hvm : vmB ns ms with
  | false =>
    rw [hvm] at CM
    rw [misV_no hvm]
    clear hvm h hb
    go_enter Try.func24, Try.ntmps24
    go_wp2_with fail
    refine CM.mono ?_
    rintro e w1 ⟨rfl, C⟩
    go_wp2_with fail
    go_ret
    exact outI_nil C
  | true =>
  rw [hvm] at CM
  rw [misV_yes hvm]
  have HE : Hid (∀ W, Below w.heap.size w W → Calls Try.prog 44 #[.slice a ns.length cap, .slice b ms.length cb] W (OutI W (expF ns ms))) := fun W hW => sExpd a b cap cb ns ms W (nd_below h hW) (ints_below hb hW) hvm
  have HML := Lib.hid (vm_is hvm).2.1
  have HN0 := Lib.hid (vn_is (vm_is hvm).1).1
  have HMB : Hid (∀ j, 0 ≤ ms.getD j 0 ∧ ms.getD j 0 ≤ 500) := allM_get (vm_is hvm).2.2
  have HZB : Hid (∀ j, 0 ≤ (expF ns ms).getD j 0 ∧ (expF ns ms).getD j 0 ≤ 500) := exp_bd hvm ns.length (Nat.le_refl _)
  have HZL := Lib.hid (expF_len ns ms)
  have HMF : Hid (misF ns ms = mkZ ns.length fun j => (expF ns ms).getD j 0 - ms.getD j 0) := rfl
  have HBI := Lib.hid hb
  generalize expF ns ms = es at HE HZB HZL HMF
  clear hvm h hb
  go_enter Try.func24, Try.ntmps24
  go_wp2_with fail
  refine CM.mono ?_
  rintro e w1 ⟨rfl, C⟩
  have CE := HE.out w1 C
  have HX := Lib.hid C
  clear C CM HE
  go_wp2_with fail
  refine CE.mono ?_
  rintro e w2 ⟨v, rfl, hU, C⟩
  obtain ⟨zb, zc, rfl, _⟩ := hU.ints
  obtain ⟨g, rfl, hgw⟩ := hU.form_ (by have := HZL.out; have := HN0.out; omega)
  have HO := Lib.hid (own_lower hU HX.out.size)
  have HB2 := Lib.hid (bel_tr HX.out C)
  have hg1 : w.heap.size ≤ g := Nat.le_trans HX.out.size hgw
  clear hU C CE HX
  go_wp2_with fail
  go_loopw [6] (fun i wr => ∃ m : Nat, m ≤ es.length ∧ i = .int .i64 m ∧ Hid (OwnI wr w.heap.size (.slice (some ⟨g, 0, none⟩) es.length zc) (accTo es (fun j => es.getD j 0 - ms.getD j 0) m) ∧ w2.grownBy wr (some g))) (fun i _ => es.length - (intOf i).toNat)
  case atStart => exact ⟨0, Nat.zero_le _, rfl, by rw [accTo_zero]; exact HO.out, g_of (Below.refl _ _) _⟩
  case round =>
    obtain ⟨m, hm, rfl, HM⟩ := hrel
    by_cases hlm : m < es.length
    · have hmm : m < ms.length := by have := HZL.out; have := HML.out; omega
      have c3 := HM.out.1.cell (j := m) (by rw [accTo_len]; exact hlm)
      rw [accTo_own _ hlm] at c3
      have c4 := HM.out.1.frozen m
      have hma : IsInts wr b ms := ints_below HBI.out (below_gv HB2.out HM.out.2 (fun q hq => by have e := Option.some.inj hq; omega))
      rcases hma with rfl | ⟨gm, om, rfl, hmc⟩
      · simp at hmm
      have c5 := hmc m hmm
      have bu := HZB.out m
      have bm := HMB.out m
      have HS : Hid (∀ z, es.getD m 0 - ms.getD m 0 = z → OwnI (wr.drew.setCell ⟨g, m, none⟩ (.int .i64 z)) w.heap.size (.slice (some ⟨g, 0, none⟩) es.length zc) (accTo es (fun j => es.getD j 0 - ms.getD j 0) (m + 1)) ∧ w2.grownBy (wr.drew.setCell ⟨g, m, none⟩ (.int .i64 z)) (some g)) := fun z hz => by
        have hst := HM.out.1.set_ m (es.getD m 0 - ms.getD m 0)
        rw [accTo_succ (fun j => es.getD j 0 - ms.getD j 0) hlm] at hst
        rw [hz] at hst
        exact ⟨hst, g_set2 (g_drewN HM.out.2 1)⟩
      have b2 : (m : Int) < (es.length : Int) := by omega
      have b3 : (m : Int) < (ms.length : Int) := by omega
      have b4 : (0 : Int) ≤ (m : Int) := by omega
      generalize es.getD m 0 = x at c3 HS bu
      generalize ms.getD m 0 = y at c5 HS bm
      have wz : IntKind.i64.wrap (x - y) = x - y := by rw [IntKind.wrap_i64]; omega
      have c3d : wr.drew.cell? ⟨g, m, none⟩ = some (.int .i64 x) := c3
      clear HM hmm hmc
      go_wp2_with fail
      refine wp_region_still_tail 12 (by kernel_rfl) (by kernel_rfl) ?_
      simp only [List.take_succ_cons, List.take_zero, List.drop_succ_cons, List.drop_zero]
      iterate 12 still_step
      refine wpStill_nil ?_
      change wpList _ _ _ _ _ wr.drew
      go_wp2_with fail
      go_roundw
      case rel => exact ⟨m + 1, by omega, by go_num, HS.out _ rfl⟩
      case measure => simp [intOf]; omega
    · have HE : Hid (OwnI wr w.heap.size (.slice (some ⟨g, 0, none⟩) es.length zc) (misF ns ms) ∧ Below w.heap.size w wr) := by
        refine ⟨?_, below_gv HB2.out HM.out.2 (fun q hq => by have e := Option.some.inj hq; omega)⟩
        have := HM.out.1
        have e1 := HZL.out
        rw [HMF.out, ← accTo_end (cs := es) _ HZL.out]
        rw [show m = ns.length from by omega] at this
        exact this
      clear HM
      go_wp2_with fail
      go_ret
      exact ⟨_, rfl, HE.out⟩
set_option maxRecDepth 100000 in
set_option maxHeartbeats 8000000 in
/-- spec.SuspectsOf -/
theorem sSus (a b : Option Addr) (cap cb : Nat) (ns : List Nd) (ms : List Int) (s : Int) (w : World) (h : IsNd w a ns) (hb : IsInts w b ms) (hn : ns.length ≤ 1048576) (hm : ms.length ≤ 1048576) :
    Calls Try.prog 26 #[.slice a ns.length cap, .slice b ms.length cb, .int .i64 s] w (OutI w (susV ns ms s)) := by
  obtain ⟨i0, hi0, hz0, hz1, hz2⟩ := info_parts infoInt
  have CM := svM a b cap cb ns ms w h hb hn hm
  cases hvm : vmB ns ms with
  | false =>
    rw [hvm] at CM
    rw [susV_no (show vsB ns ms s = false from by unfold vsB; rw [hvm]; rfl)]
    clear hvm h hb
    go_enter Try.func26, Try.ntmps26
    go_wp2_with fail
    refine CM.mono ?_
    rintro e w1 ⟨rfl, C⟩
    go_wp2_with fail
    go_ret
    exact outI_nil C
  | true =>
  rw [hvm] at CM
  by_cases hs : 0 ≤ s ∧ s ≤ 500
  rotate_left
  · rw [susV_no (show vsB ns ms s = false from by cases e : vsB ns ms s with | false => rfl | true => exact absurd (vs_is e).2 hs)]
    clear hvm h hb
    go_enter Try.func26, Try.ntmps26
    go_wp2_with fail
    refine CM.mono ?_
    rintro e w1 ⟨rfl, C⟩
    go_wp2_with fail
    refine (inRange_no s 0 500 _ (by omega)).mono ?_
    rintro e w' ⟨rfl, rfl⟩
    go_wp2_with fail
    go_ret
    exact outI_nil C
  rw [susV_yes (vs_yes hvm hs.1 hs.2)]
  have HE : Hid (∀ W, Below w.heap.size w W → Calls Try.prog 44 #[.slice a ns.length cap, .slice b ms.length cb] W (OutI W (expF ns ms))) := fun W hW => sExpd a b cap cb ns ms W (nd_below h hW) (ints_below hb hW) hvm
  have hzl := expF_len ns ms
  have HML := Lib.hid (vm_is hvm).2.1
  have HMB : Hid (∀ j, 0 ≤ ms.getD j 0 ∧ ms.getD j 0 ≤ 500) := allM_get (vm_is hvm).2.2
  have HZB : Hid (∀ j, 0 ≤ (expF ns ms).getD j 0 ∧ (expF ns ms).getD j 0 ≤ 500) := exp_bd hvm ns.length (Nat.le_refl _)
  have HMF : Hid (∀ j, j < ns.length → (misF ns ms).getD j 0 = (expF ns ms).getD j 0 - ms.getD j 0) := fun j hj => misF_get hj
  have HN0 := Lib.hid (vn_is (vm_is hvm).1).1
  have HN1 := HN0
  have HBI := Lib.hid hb
  generalize misF ns ms = qs at HMF
  generalize expF ns ms = zs at HE hzl HZB HMF
  have HZL := Lib.hid hzl
  clear hvm h hb hzl
  go_enter Try.func26, Try.ntmps26
  go_wp2_with fail
  refine CM.mono ?_
  rintro e w1 ⟨rfl, C⟩
  clear CM
  go_wp2_with fail
  refine (inRange_yes s 0 500 _ hs.1 hs.2).mono ?_
  rintro e w' ⟨rfl, rfl⟩
  have CE := HE.out _ (C.alloc C.size (.cells #[] 3))
  have HO1 := Lib.hid (OwnI.new C)
  have HB1 := Lib.hid (C.alloc C.size (.cells #[] 3))
  clear C HE
  go_wp2_with fail
  refine CE.mono ?_
  rintro e w2 ⟨v, rfl, hU, C⟩
  obtain ⟨zb, zc, rfl, _⟩ := hU.ints
  obtain ⟨gz, rfl, hz1_⟩ := hU.form_ (by have := HZL.out; have := HN1.out; omega)
  have hzb : gz < w2.heap.size := hU.blk.2
  obtain ⟨B1, hB1⟩ : ∃ B1, (w1.alloc (.cells #[] 3)).heap.size = B1 := ⟨_, rfl⟩
  have hq0 : w1.heap.size < B1 := by rw [← hB1]; simp
  rw [hB1] at hU hz1_
  have HO2 := Lib.hid (HO1.out.of_block C)
  have HBW := Lib.hid (bel_tr HB1.out C)
  have HU := Lib.hid hU
  clear C CE hU HO1 HB1 hB1
  go_wp2_with fail
  go_loopw [7, 9] (fun v i wr => ∃ k : Nat, k ≤ zs.length ∧ i = .int .i64 k ∧ OwnI wr w.heap.size v (susTo qs s k) ∧ Hid (OwnI wr B1 (.slice (some ⟨gz, 0, none⟩) zs.length zc) zs ∧ (∀ q, v.ownBlock = some q → q < B1 ∨ w2.heap.size ≤ q) ∧ w2.heap.size ≤ wr.heap.size ∧ Below w.heap.size w wr)) (fun _ i _ => zs.length - (intOf i).toNat)
  case atStart => exact ⟨0, Nat.zero_le _, rfl, HO2.out, HU.out, (fun q hq => by have e : w1.heap.size = q := Option.some.inj hq; omega), Nat.le_refl _, HBW.out⟩
  case round =>
    clear HO2
    obtain ⟨k, hk, rfl, hO, HI⟩ := hrel
    by_cases hlt : k < zs.length
    · have hll := susTo_len qs s k
      have HY := Lib.hid (susTo_yes (zs := qs) (s := s) (k := k))
      have HNO := Lib.hid (susTo_no (zs := qs) (s := s) (k := k))
      have hnz : zs.length ≤ 1048576 := by have := HZL.out; omega
      have c1 := HI.out.1.cell hlt
      have hma : IsInts wr b ms := ints_below HBI.out HI.out.2.2.2
      rcases hma with rfl | ⟨gm, om, rfl, hmc⟩
      · have h1 := HML.out; have h2 := HN0.out; rw [List.length_nil] at h1; omega
      have c2 := hmc k (by have := HML.out; have := HZL.out; omega)
      have bm := HMB.out k
      have bz := HZB.out k
      have hmf := HMF.out k (by have := HZL.out; omega)
      have b5 : (k : Int) < (ms.length : Int) := by have := HML.out; have := HZL.out; omega
      generalize ms.getD k 0 = y at c2 bm hmf
      generalize zs.getD k 0 = x at c1 bz hmf
      have wz : IntKind.i64.wrap (x - y) = x - y := by rw [IntKind.wrap_i64]; omega
      have HMFK := Lib.hid hmf
      clear hmf hmc
      have k0 : (0 : Int) ≤ (k : Int) := by omega
      have k1 : (k : Int) < (zs.length : Int) := by omega
      generalize susTo qs s k = L at hO hll HY HNO
      have HO := Lib.hid hO
      by_cases p : s < x - y
      · have e1 : decide (s < x - y) = true := decide_eq_true p
        have HR := Lib.hid (HY.out (by rw [HMFK.out]; exact p))
        clear HY HNO
        have hO2 := hO
        have hsz : w.heap.size ≤ wr.heap.size := HI.out.2.2.2.size
        have hl2 : L.length ≤ 1048576 := by omega
        clear hO
        go_wp2_with fail
        go_quiet (fail)
        have hO3 : OwnI (wr.drewN nq) w.heap.size u7 L := hO2
        go_wp2_with (first | (at_builtin; refine wpList_append_own_at _ rfl (.tmp 40) (.tmp 42) _ rfl w.heap.size 3 i0 (.int .i64 0) 1 8 Try.underlying23 hi0 hz0 hz1 hz2 rfl (by decide) _ _ _ rfl (hO3.alloc _) ⟨(wr.drewN nq).heap.size, 0, none⟩ 1 1 [.int .i64 (k : Int)] rfl rfl (cell_one_new _ _ _) (fun x hx => by simp at hx; subst hx; rfl) (by unfold maxLen; omega) (by omega) (by simp; omega) ?_; intro v3 w3 hown3 hgrow3 hnil3 hat3))
        have HX : Hid (OwnI w3 w.heap.size v3 (L ++ [(k : Int)]) ∧ Hid (OwnI w3 B1 (.slice (some ⟨gz, 0, none⟩) zs.length zc) zs ∧ (∀ q, v3.ownBlock = some q → q < B1 ∨ w2.heap.size ≤ q) ∧ w2.heap.size ≤ w3.heap.size ∧ Below w.heap.size w w3)) := by
          have ga := (Below.refl wr.heap.size (wr.drewN nq)).alloc (Nat.le_refl _) (.cells #[.int .i64 (k : Int)] 3)
          have hgs0 := hgrow3.size
          rw [World.size_alloc] at hgs0
          have hgs : wr.heap.size + 1 ≤ w3.heap.size := hgs0
          refine ⟨OwnI.snoc hown3, OwnI.grown (OwnI.of_block (w := (wr.drewN nq)) (show OwnI (wr.drewN nq) B1 _ zs from HI.out.1) ga) hgrow3 (fun c => by have := HI.out.2.1 gz c.symm; omega), (fun q hq => ?_), by have := HI.out.2.2.1; omega, ((below_drewN HI.out.2.2.2 nq).alloc hsz _).grown hgrow3 (by simp; omega) HO.out.grow⟩
          rcases hat3 with e | e
          · exact HI.out.2.1 q (e ▸ hq)
          · rw [e] at hq
            have e2 := Option.some.inj hq
            have := HI.out.2.2.1
            simp at e2; omega
        clear hO2 hown3 hgrow3 hnil3 hat3
        go_roundw
        case rel => exact ⟨k + 1, by omega, by go_num, by rw [HR.out]; exact HX.out.1, HX.out.2⟩
        case measure => simp [intOf]; omega
      · have e1 : decide (s < x - y) = false := decide_eq_false p
        have HR := Lib.hid (HNO.out (by rw [HMFK.out]; exact p))
        clear HY HNO hO
        go_wp2_with fail
        go_quiet (fail)
        go_wp2_with fail
        go_roundw
        case rel => exact ⟨k + 1, by omega, by go_num, by rw [HR.out]; exact HO.out, ⟨HI.out.1, HI.out.2.1, HI.out.2.2.1, below_drewN HI.out.2.2.2 _⟩⟩
        case measure => simp [intOf]; omega
    · have HX : Hid (OwnI wr w.heap.size u7 (susTo qs s ns.length) ∧ Below w.heap.size w wr) := ⟨by rw [← HZL.out, show zs.length = k from by omega]; exact hO, HI.out.2.2.2⟩
      clear hO HI
      go_wp2_with fail
      go_ret
      exact ⟨_, rfl, HX.out⟩
end Go.Proofs.Ytigapnbpgbfbhaa
