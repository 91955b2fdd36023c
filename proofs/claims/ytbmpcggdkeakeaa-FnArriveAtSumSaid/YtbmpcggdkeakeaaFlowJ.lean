/- What comes to each node, by the program. Condition: at most 1048576 nodes. -/
import Derived.Test.YtbmpcggdkeakeaaFlowI
import Derived.Test.YtbmpcggdkeakeaaNodL
import Derived.Deep.RegionHeld3
namespace Go.Proofs.Ytbmpcggdkeakeaa
open Go.RowKit
set_option linter.unusedSimpArgs false
set_option linter.unusedVariables false
theorem give_is {ns : List Nd} (hv : vnB ns = true) {k : Nat} (hk : k < ns.length) {c : Int} (hc : 0 ≤ c) : (if csB (passV (ns.getD k nd0) c) (wts ns (k : Int)) = true then sa 2 (passV (ns.getD k nd0) c) (wts ns (k : Int)) else []) = giveV ns (k : Int) (passV (ns.getD k nd0) c) := by
  unfold giveV
  by_cases hw : vwB (wts ns (k : Int)) = true
  · rw [if_pos hw, if_pos (csB_pass hv hk hc hw)]
  · rw [if_neg hw, if_neg (fun h => hw (cs_yes h).2)]
set_option maxRecDepth 100000 in
set_option maxHeartbeats 8000000 in
/-- impl.FlowsOf -/
theorem iFlows (a : Option Addr) (cap : Nat) (ns : List Nd) (fl : Int) (w : World) (h : IsNd w a ns) (hn : ns.length ≤ 1048576) (hcap : ns.length ≤ cap) :
    Calls Try.prog 37 #[.slice a ns.length cap, .int .i64 fl] w (OutI w (flowV ns fl)) := by
  have CF := icanFlow a cap ns fl w h hn hcap
  cases hb : flB ns fl with
  | false =>
    rw [hb] at CF
    rw [flow_no hb]
    clear hb h
    go_enter Try.func37, Try.ntmps37
    go_wp2_with fail
    refine CF.mono ?_
    rintro e w1 ⟨rfl, C⟩
    go_wp2_with fail
    go_ret
    exact outI_nil C
  | true =>
  rw [hb] at CF
  rw [flow_yes hb]
  obtain ⟨hv, f0, f1⟩ := flB_is hb
  obtain ⟨l1, l12, _⟩ := vn_is hv
  have hmk := run_make_row' (P := Try.prog) 29 3 (.int .i64 0) 8 Try.underlying29 infoInt rfl .i64 .i64 ns.length (by omega) (by omega)
  have HH := Lib.hid h
  have HV := Lib.hid hv
  rcases h with rfl | ⟨g0, o, rfl, hc⟩
  · simp at l1
  have HC := Lib.hid hc
  have i0 : (0 : Int) < (ns.length : Int) := by omega
  clear hc hb hv
  go_enter Try.func37, Try.ntmps37
  go_wp2_with fail
  refine CF.mono ?_
  rintro e w1 ⟨rfl, C⟩
  clear CF
  have hM := OwnI.made C ns.length hn
  have hz := hM.cell (j := 0) (by rw [List.length_replicate]; omega)
  have hzf := hM.frozen 0
  have hO0 := hM.set_ 0 fl
  obtain ⟨g, hg⟩ : ∃ g, w1.heap.size = g := ⟨_, rfl⟩
  have hgw : w.heap.size ≤ g := by rw [← hg]; exact C.size
  rw [hg] at hz hzf hO0
  rw [List.getD_eq_getElem?_getD, List.getElem?_replicate, if_pos (by omega)] at hz
  dsimp only [Option.getD_some] at hz
  have hB0 : Below w.heap.size w ((w1.alloc (.cells (madeCells #[.int .i64 0] ns.length) 3)).setCell ⟨g, 0, none⟩ (.int .i64 fl)) := (C.alloc C.size _).setCell (p := ⟨g, 0, none⟩) hgw _
  rw [World.setCell_alloc_at _ _ _ _ _ hg.symm] at hO0 hB0
  have HO0 := Lib.hid hO0
  have HB0 := Lib.hid hB0
  have HG := Lib.hid hg
  clear hM hO0 hB0 C
  go_wp2_with fail
  clear hmk hz hzf
  go_loopw [24] (fun i wr => ∃ k : Nat, k ≤ ns.length ∧ i = .int .i64 k ∧ OwnI wr w.heap.size (.slice (some ⟨g, 0, none⟩) ns.length ns.length) (comeTo ns fl k) ∧ Below w.heap.size w wr) (fun i _ => ns.length - (intOf i).toNat)
  case atStart => exact ⟨0, Nat.zero_le _, rfl, HO0.out, HB0.out⟩
  case round =>
    clear HO0 HB0 HG hg
    obtain ⟨k, hk, rfl, hO, hB⟩ := hrel
    by_cases hlt : k < ns.length
    · obtain ⟨c0, c1, c2, c3, c4⟩ := nd_at HC.out hB hlt
      obtain ⟨q1, q2, q3, q4⟩ := vn_at HV.out hlt
      have hcb := comeTo_bd HV.out ⟨f0, f1⟩ k hk k
      have hgc := hO.cell (j := k) (by rw [comeTo_len]; exact hlt)
      have hgb := hO.blk
      have HGI := Lib.hid (give_is HV.out hlt (c := (comeTo ns fl k).getD k 0) hcb.1)
      have HST : Hid (comeTo ns fl (k + 1) = putTo (comeTo ns fl k) (kidsF ns (k : Int)) (giveV ns (k : Int) (passV (ns.getD k nd0) ((comeTo ns fl k).getD k 0))) (giveV ns (k : Int) (passV (ns.getD k nd0) ((comeTo ns fl k).getD k 0))).length) := rfl
      have hgl := give_len ns (k : Int) (passV (ns.getD k nd0) ((comeTo ns fl k).getD k 0))
      generalize (comeTo ns fl k).getD k 0 = c at hcb hgc HGI HST hgl
      have CP := fun W => ipassing (ns.getD k nd0).1 (ns.getD k nd0).2.1 (ns.getD k nd0).2.2.1 (ns.getD k nd0).2.2.2.1 (ns.getD k nd0).2.2.2.2 c W hcb q2 q3
      change ∀ W, Calls _ _ _ W (fun e w' => e = .returned (.int .i64 (passV (ns.getD k nd0) c)) ∧ Below W.heap.size W w') at CP
      generalize ns.getD k nd0 = nd at c0 c1 c2 c3 c4 CP HGI HST hgl q2 q3
      obtain ⟨x0, x1, x2, x3, x4⟩ := nd
      dsimp only at c0 c1 c2 c3 c4 CP
      generalize passV (x0, x1, x2, x3, x4) c = p at CP HGI HST hgl
      obtain ⟨Wa, hWa⟩ : ∃ Wa, wr.alloc (.cells #[.int .i64 x0, .int .i64 x1, .int .i64 x2, .int .i64 x3, .int .i64 x4] 33) = Wa := ⟨_, rfl⟩
      have K0 : Blk Wa wr.heap.size 33 #[.int .i64 x0, .int .i64 x1, .int .i64 x2, .int .i64 x3, .int .i64 x4] := by rw [← hWa]; exact Blk.new _ _ _
      have kb0 := K0.cell 0
      have kb1 := K0.cell 1
      have kb2 := K0.cell 2
      have kb3 := K0.cell 3
      have kb4 := K0.cell 4
      dsimp at kb0 kb1 kb2 kb3 kb4
      have hba : Below wr.heap.size wr Wa := by rw [← hWa]; exact (Below.refl _ _).alloc (Nat.le_refl _) _
      have kc := (hba.cell (p := ⟨g, k, none⟩) hgb.2).trans hgc
      have HOa := Lib.hid (hO.of_block hba)
      have HBa := Lib.hid (bel_tr hB hba)
      have hga : g < Wa.heap.size := by have := hba.size; omega
      have k0 : (0 : Int) ≤ (k : Int) := by omega
      have k1 : (k : Int) < (ns.length : Int) := by omega
      clear hO hB K0 hba hgc q1 q2 q3 q4 hcb
      go_wp2_with fail
      clear hWa c0 c1 c2 c3 c4
      refine wp_region_held_drew (S := (fun W' => (W'.cell? ⟨wr.heap.size, 0, none⟩ = some (.int .i64 x0) ∧ W'.cell? ⟨wr.heap.size, 1, none⟩ = some (.int .i64 x1) ∧ W'.cell? ⟨wr.heap.size, 2, none⟩ = some (.int .i64 x2) ∧ W'.cell? ⟨wr.heap.size, 3, none⟩ = some (.int .i64 x3) ∧ W'.cell? ⟨wr.heap.size, 4, none⟩ = some (.int .i64 x4) ∧ W'.cell? ⟨g, k, none⟩ = some (.int .i64 c)) ∧ Below Wa.heap.size Wa W')) (by kernel_rfl) ?_ (fun hHeld => ?_)
      · exact ⟨⟨kb0, kb1, kb2, kb3, kb4, kc⟩, (Below.refl _ _).drew⟩
      refine wpAnyH_take (i := 0) (oi := ?ooa0) (v := ?vva0) ?hia0 (by kernel_rfl) ?h3a0 ?h4a0 ?h5a0 ?h6a0 (by assumption) ?h8a0
      case hia0 => (simp only [List.getElem?_toArray, List.getElem?_cons_succ, List.getElem?_cons_zero]; rfl)
      case h3a0 => kernel_rfl
      case h4a0 => kernel_rfl
      case h6a0 => (refine Or.inl ⟨by rfl, ?_⟩; intro w hSw; (try dsimp only at hSw); (go_simp <;> with_reducible rfl))
      case h5a0 => exact fun _ _ _ h => h
      try simp only [Act.put, List.setIfInBounds_toArray, List.set_cons_zero, List.set_cons_succ]
      refine wpAnyH_take (i := 1) (oi := ?ooa1) (v := ?vva1) ?hia1 (by kernel_rfl) ?h3a1 ?h4a1 ?h5a1 ?h6a1 (by assumption) ?h8a1
      case hia1 => (simp only [List.getElem?_toArray, List.getElem?_cons_succ, List.getElem?_cons_zero]; rfl)
      case h3a1 => kernel_rfl
      case h4a1 => kernel_rfl
      case h6a1 => (refine Or.inl ⟨by rfl, ?_⟩; intro w hSw; (try dsimp only at hSw); (go_simp <;> with_reducible rfl))
      case h5a1 => exact fun _ _ _ h => h
      try simp only [Act.put, List.setIfInBounds_toArray, List.set_cons_zero, List.set_cons_succ]
      refine wpAnyH_take (i := 2) (oi := ?ooa2) (v := ?vva2) ?hia2 (by kernel_rfl) ?h3a2 ?h4a2 ?h5a2 ?h6a2 (by assumption) ?h8a2
      case hia2 => (simp only [List.getElem?_toArray, List.getElem?_cons_succ, List.getElem?_cons_zero]; rfl)
      case h3a2 => kernel_rfl
      case h4a2 => kernel_rfl
      case h6a2 => (refine Or.inl ⟨by rfl, ?_⟩; intro w hSw; (try dsimp only at hSw); (go_simp <;> with_reducible rfl))
      case h5a2 => exact fun _ _ _ h => h
      try simp only [Act.put, List.setIfInBounds_toArray, List.set_cons_zero, List.set_cons_succ]
      refine wpAnyH_take (i := 3) (oi := ?ooa3) (v := ?vva3) ?hia3 (by kernel_rfl) ?h3a3 ?h4a3 ?h5a3 ?h6a3 (by assumption) ?h8a3
      case hia3 => (simp only [List.getElem?_toArray, List.getElem?_cons_succ, List.getElem?_cons_zero]; rfl)
      case h3a3 => kernel_rfl
      case h4a3 => kernel_rfl
      case h6a3 => (refine Or.inl ⟨by rfl, ?_⟩; intro w hSw; (try dsimp only at hSw); (go_simp <;> with_reducible rfl))
      case h5a3 => exact fun _ _ _ h => h
      try simp only [Act.put, List.setIfInBounds_toArray, List.set_cons_zero, List.set_cons_succ]
      refine wpAnyH_take (i := 4) (oi := ?ooa4) (v := ?vva4) ?hia4 (by kernel_rfl) ?h3a4 ?h4a4 ?h5a4 ?h6a4 (by assumption) ?h8a4
      case hia4 => (simp only [List.getElem?_toArray, List.getElem?_cons_succ, List.getElem?_cons_zero]; rfl)
      case h3a4 => kernel_rfl
      case h4a4 => kernel_rfl
      case h6a4 => (refine Or.inl ⟨by rfl, ?_⟩; intro w hSw; (try dsimp only at hSw); (go_simp <;> with_reducible rfl))
      case h5a4 => exact fun _ _ _ h => h
      try simp only [Act.put, List.setIfInBounds_toArray, List.set_cons_zero, List.set_cons_succ]
      refine wpAnyH_ready (rs := [5]) (by kernel_rfl) (by simp) (AllReadyH.cons (o := ?ooa5) ?hia5 (fun K hK => ?hka5) AllReadyH.nil)
      rotate_left
      case hia5 => (simp only [List.getElem?_toArray, List.getElem?_cons_succ, List.getElem?_cons_zero]; rfl)
      (rw [if_pos (by rfl)]; go_simp; refine (CP _).mono ?_; rintro e wq ⟨rfl, hb⟩; go_wp2_with fail; refine hK.out _ _ (kp6 hb hHeld) (fun hHeld => ?_); clear hK K)
      try simp only [Act.put, List.setIfInBounds_toArray, List.set_cons_zero, List.set_cons_succ]
      refine wpAnyH_take (i := 6) (oi := ?ooa6) (v := ?vva6) ?hia6 (by kernel_rfl) ?h3a6 ?h4a6 ?h5a6 ?h6a6 (by assumption) ?h8a6
      case hia6 => (simp only [List.getElem?_toArray, List.getElem?_cons_succ, List.getElem?_cons_zero]; rfl)
      case h3a6 => kernel_rfl
      case h4a6 => kernel_rfl
      case h6a6 => (refine Or.inl ⟨by rfl, ?_⟩; intro w hSw; (try dsimp only at hSw); (go_simp <;> with_reducible rfl))
      case h5a6 => exact fun _ _ _ h => h
      try simp only [Act.put, List.setIfInBounds_toArray, List.set_cons_zero, List.set_cons_succ]
      refine wpAnyH_done (by kernel_rfl) ?_ _
      have hW2 : Below Wa.heap.size Wa wq := hHeld.2
      have B2 := bel_tr HBa.out hW2
      have O2 := HOa.out.of_block hW2
      have hz2 := hW2.size
      clear hHeld hb
      have CK := iKids (some ⟨g0, o, none⟩) cap ns (k : Int) wq (nd_below HH.out B2) hn hcap
      rw [kids_yes HV.out (inN_is hlt)] at CK
      go_wp2_with fail
      refine CK.mono ?_
      rintro e w3 ⟨v9, rfl, hK, hB3⟩
      obtain ⟨kb, kcp, rfl, hKI⟩ := hK.ints
      have hkm : ∀ z ∈ kidsF ns (k : Int), ∃ j : Nat, z = (j : Int) ∧ j < ns.length := fun z hz => by obtain ⟨j, a, b, _⟩ := kids_bd hz; exact ⟨j, a, b⟩
      have hkl := kids_len ns (k : Int)
      have CW := iweights (some ⟨g0, o, none⟩) kb cap kcp ns (kidsF ns (k : Int)) w3 (nd_below HH.out (bel_tr B2 hB3)) hKI hkm (by omega) hn
      go_wp2_with fail
      refine CW.mono ?_
      rintro e w4 ⟨v41, rfl, hWt, hB4⟩
      obtain ⟨wb, wcp, rfl, hWI⟩ := hWt.ints
      have CM := imidV p wb wcp (wts ns (k : Int)) w4 hWI (by unfold wts; rw [wk_len]; omega)
      rw [HGI.out] at CM
      go_wp2_with fail
      refine CM.mono ?_
      rintro e w5 ⟨v42, rfl, hG, hB5⟩
      obtain ⟨gb, gcp, rfl, _⟩ := hG.ints
      have B5 := bel_tr (bel_tr (bel_tr B2 hB3) hB4) hB5
      have O5 := ((O2.of_block hB3).of_block hB4).of_block hB5
      have K5 := (hK.of_block hB4).of_block hB5
      have s3 := hB3.size
      have s4 := hB4.size
      have s5 := hB5.size
      have hcl := comeTo_len ns fl k
      have HKM := Lib.hid hkm
      clear CK CW CM hKI hWI hWt hB3 hB4 hB5 O2 B2 hK hkm HOa HBa hW2 CP kb0 kb1 kb2 kb3 kb4 kc HGI
      generalize kidsF ns (k : Int) = ks at K5 HKM hkl hgl HST
      generalize giveV ns (k : Int) p = gv at hG hgl HST
      generalize comeTo ns fl k = cs at O5 hcl HST
      have HO5 := Lib.hid O5
      have HK5 := Lib.hid K5
      have HG5 := Lib.hid hG
      have HB5 := Lib.hid B5
      clear O5 K5 hG B5
      go_wp2_with fail
      go_loopw [44] (fun i wr => ∃ m : Nat, m ≤ gv.length ∧ i = .int .i64 m ∧ Hid (OwnI wr w.heap.size (.slice (some ⟨g, 0, none⟩) ns.length ns.length) (putTo cs ks gv m) ∧ w5.grownBy wr (some g))) (fun i _ => gv.length - (intOf i).toNat)
      case atStart => exact ⟨0, Nat.zero_le _, rfl, HO5.out, g_of (Below.refl _ _) _⟩
      case round =>
        obtain ⟨m, hm, rfl, HM⟩ := hrel
        by_cases hlm : m < gv.length
        · have hka := (HK5.out.apart HM.out.2 (fun q hq => by have e := Option.some.inj hq; omega)).at_
          have hga2 := (HG5.out.apart HM.out.2 (fun q hq => by have e := Option.some.inj hq; omega)).at_
          rcases hka with rfl | ⟨gk, ok, rfl, hkc⟩
          · have : gv.length ≤ 0 := hgl
            omega
          rcases hga2 with rfl | ⟨gg, og, rfl, hgc⟩
          · simp at hlm
          have c1 := hkc m (by omega)
          have c2 := hgc m hlm
          obtain ⟨j, hj, hjl⟩ := HKM.out _ (getD_mem (zs := ks) (k := m) (by omega))
          have hpl := putTo_len cs ks gv m
          have c3 := HM.out.1.cell (j := j) (by omega)
          have c4 := HM.out.1.frozen j
          have hst := HM.out.1.set_ j (gv.getD m 0)
          have hps := putTo_succ cs ks gv m
          rw [hj, show ((j : Int)).toNat = j from by omega] at hps
          rw [← hps] at hst
          rw [hj] at c1
          have HS : Hid (OwnI (wr.setCell ⟨g, j, none⟩ (.int .i64 (gv.getD m 0))) w.heap.size (.slice (some ⟨g, 0, none⟩) ns.length ns.length) (putTo cs ks gv (m + 1)) ∧ w5.grownBy (wr.setCell ⟨g, j, none⟩ (.int .i64 (gv.getD m 0))) (some g)) := ⟨hst, g_set2 HM.out.2⟩
          have b0 : (0 : Int) ≤ (j : Int) := by omega
          have b1 : (j : Int) < (ns.length : Int) := by omega
          have b2 : (m : Int) < (gv.length : Int) := by omega
          have b3 : (m : Int) < (ks.length : Int) := by omega
          have b4 : (0 : Int) ≤ (m : Int) := by omega
          generalize gv.getD m 0 = y at c2 HS
          generalize (putTo cs ks gv m).getD j 0 = y3 at c3
          clear hkc hgc hst hps hj hpl HM
          go_wp2_with fail
          go_roundw
          case rel => exact ⟨m + 1, by omega, by go_num, HS.out⟩
          case measure => simp [intOf]; omega
        · have HE : Hid (OwnI wr w.heap.size (.slice (some ⟨g, 0, none⟩) ns.length ns.length) (comeTo ns fl (k + 1)) ∧ Below w.heap.size w wr) := by
            refine ⟨?_, below_gv HB5.out HM.out.2 (fun q hq => by have e := Option.some.inj hq; omega)⟩
            rw [HST.out]
            have := HM.out.1
            rw [show m = gv.length from by omega] at this
            exact this
          clear HM
          go_wp2_with fail
          go_roundw
          case rel => exact ⟨k + 1, by omega, by go_num, HE.out⟩
          case measure => simp [intOf]; omega
    · have HO := Lib.hid hO
      have HB := Lib.hid hB
      clear hO hB
      go_wp2_with fail
      go_ret
      exact ⟨_, rfl, by rw [show k = ns.length from by omega] at HO; exact HO.out, HB.out⟩
end Go.Proofs.Ytbmpcggdkeakeaa
