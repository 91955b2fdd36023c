/- What goes from one node to its kids, by the program. Condition: at most 1048576 nodes. -/
import Derived.Test.YtigapnbpgbfbhaaFlowI
import Derived.Test.YtigapnbpgbfbhaaGrB
import Derived.Test.YtigapnbpgbfbhaaMeaP
import Derived.Deep.RegionHeld3
namespace Go.Proofs.Ytigapnbpgbfbhaa
open Go.RowKit
set_option linter.unusedSimpArgs false
set_option linter.unusedVariables false
theorem give_is {ns : List Nd} (hv : vnB ns = true) {k : Nat} (hk : k < ns.length) {c : Int} (hc : 0 ≤ c) : (if csB (passV (ns.getD k nd0) c) (wts ns (k : Int)) = true then sa 2 (passV (ns.getD k nd0) c) (wts ns (k : Int)) else []) = giveV ns (k : Int) (passV (ns.getD k nd0) c) := by
  unfold giveV
  by_cases hw : vwB (wts ns (k : Int)) = true
  · rw [if_pos hw, if_pos (csB_pass hv hk hc hw)]
  · rw [if_neg hw, if_neg (fun h => hw (cs_yes h).2)]
set_option maxRecDepth 100000 in
set_option maxHeartbeats 8000000 in
/-- impl.unitsFrom -/
theorem iUnits (a : Option Addr) (cap : Nat) (ns : List Nd) (k : Nat) (c : Int) (w : World) (h : IsNd w a ns) (hn : ns.length ≤ 1048576) (hcap : ns.length ≤ cap) (hv : vnB ns = true) (hlt : k < ns.length) (hcb : 0 ≤ c ∧ c ≤ 500) :
    Calls Try.prog 47 #[.slice a ns.length cap, .int .i64 (k : Int), .int .i64 c] w (OutI w (unitsF ns k c)) := by
  have hmk := run_make_row' (P := Try.prog) 23 3 (.int .i64 0) 8 Try.underlying23 infoInt rfl .i64 .i64 ns.length (by omega) (by omega)
  have HH := Lib.hid h
  have HV := Lib.hid hv
  obtain ⟨l1, _, _⟩ := vn_is hv
  rcases h with rfl | ⟨g0, o, rfl, hc⟩
  · exact absurd hlt (Nat.not_lt_zero _)
  have HC := Lib.hid hc
  clear hc hv
  have hM := OwnI.made (Below.refl w.heap.size w) ns.length hn
  obtain ⟨w1, hw1⟩ : ∃ w1, w.alloc (.cells (madeCells #[.int .i64 0] ns.length) 3) = w1 := ⟨_, rfl⟩
  have B1 : Below w.heap.size w w1 := by rw [← hw1]; exact (Below.refl w.heap.size w).alloc (Nat.le_refl _) _
  rw [hw1] at hM
  have hg1 : w.heap.size < w1.heap.size := by rw [← hw1]; simp
  have CK := iKids (some ⟨g0, o, none⟩) cap ns (k : Int) w1 (nd_below HH.out B1) hn hcap
  rw [kids_yes HV.out (inN_is hlt)] at CK
  obtain ⟨g, hg⟩ : ∃ g, w.heap.size = g := ⟨_, rfl⟩
  have HM := Lib.hid hM
  have HB1 := Lib.hid B1
  have HW1 := Lib.hid hw1
  clear hM B1
  go_enter Try.func47, Try.ntmps47
  go_wp2_with fail
  clear hmk hw1
  refine CK.mono ?_
  rintro e w3 ⟨v9, rfl, hK, hB3⟩
  obtain ⟨kb, kcp, rfl, hKI⟩ := hK.ints
  have B3 := bel_tr HB1.out hB3
  have O3 := HM.out.of_block hB3
  have s3 := hB3.size
  obtain ⟨c0, c1, c2, c3, c4⟩ := nd_at HC.out B3 hlt
  obtain ⟨q1, q2, q3, q4⟩ := vn_at HV.out hlt
  have hgl := give_len ns (k : Int) (passV (ns.getD k nd0) c)
  have HGI := Lib.hid (give_is HV.out hlt (c := c) hcb.1)
  have HST : Hid (unitsF ns k c = putTo (List.replicate ns.length 0) (kidsF ns (k : Int)) (giveV ns (k : Int) (passV (ns.getD k nd0) c)) (giveV ns (k : Int) (passV (ns.getD k nd0) c)).length) := rfl
  have CP := fun W => ipassing (ns.getD k nd0).1 (ns.getD k nd0).2.1 (ns.getD k nd0).2.2.1 (ns.getD k nd0).2.2.2.1 (ns.getD k nd0).2.2.2.2 c W hcb q2 q3
  change ∀ W, Calls _ _ _ W (fun e w' => e = .returned (.int .i64 (passV (ns.getD k nd0) c)) ∧ Below W.heap.size W w') at CP
  generalize ns.getD k nd0 = nd at c0 c1 c2 c3 c4 CP HGI HST hgl q2 q3
  obtain ⟨x0, x1, x2, x3, x4⟩ := nd
  dsimp only at c0 c1 c2 c3 c4 CP
  generalize passV (x0, x1, x2, x3, x4) c = p at CP HGI HST hgl
  have hkm : ∀ z ∈ kidsF ns (k : Int), ∃ j : Nat, z = (j : Int) ∧ j < ns.length := fun z hz => by obtain ⟨j, a, b, _⟩ := kids_bd hz; exact ⟨j, a, b⟩
  have hkl := kids_len ns (k : Int)
  have k0 : (0 : Int) ≤ (k : Int) := by omega
  have k1 : (k : Int) < (ns.length : Int) := by omega
  have HO3 := Lib.hid O3
  have HK3 := Lib.hid hK
  have HB3 := Lib.hid B3
  clear O3 hK B3 hB3 hKI CK q1 q2 q3 q4 hcb
  go_wp2_with fail
  refine (CP _).mono ?_
  rintro e w4 ⟨rfl, hB4⟩
  have B4 := bel_tr HB3.out hB4
  have O4 := HO3.out.of_block hB4
  have K4 := HK3.out.of_block hB4
  have s4 := hB4.size
  have CW := iweights (some ⟨g0, o, none⟩) kb cap kcp ns (kidsF ns (k : Int)) w4 (nd_below HH.out B4) K4.at_ hkm (by omega) hn
  have HO4 := Lib.hid O4
  have HK4 := Lib.hid K4
  have HB4 := Lib.hid B4
  clear O4 K4 B4 hB4 CP c0 c1 c2 c3 c4
  go_wp2_with fail
  refine CW.mono ?_
  rintro e w5 ⟨v41, rfl, hWt, hB5⟩
  obtain ⟨wb, wcp, rfl, hWI⟩ := hWt.ints
  have CM := imidV p wb wcp (wts ns (k : Int)) w5 hWI (by unfold wts; rw [wk_len]; omega)
  rw [HGI.out] at CM
  have O5 := HO4.out.of_block hB5
  have K5 := HK4.out.of_block hB5
  have B5 := bel_tr HB4.out hB5
  have s5 := hB5.size
  have HO5 := Lib.hid O5
  have HK5 := Lib.hid K5
  have HB5 := Lib.hid B5
  clear O5 K5 B5 hB5 CW hWI hWt
  go_wp2_with fail
  refine CM.mono ?_
  rintro e w6 ⟨v42, rfl, hG, hB6⟩
  obtain ⟨gb, gcp, rfl, _⟩ := hG.ints
  have O6 := HO5.out.of_block hB6
  have K6 := HK5.out.of_block hB6
  have B6 := bel_tr HB5.out hB6
  have s6 := hB6.size
  have HKM := Lib.hid hkm
  clear CM hB6 hkm HGI HO5 HK5 HB5 HO4 HK4 HB4 HO3 HK3 HB3 HM HB1
  rw [hg] at O6 hg1
  generalize kidsF ns (k : Int) = ks at K6 HKM hkl hgl HST
  generalize giveV ns (k : Int) p = gv at hG hgl HST
  have HOO := Lib.hid O6
  have HKK := Lib.hid K6
  have HGG := Lib.hid hG
  have HBB := Lib.hid B6
  clear O6 K6 hG B6
  have hrl : (List.replicate ns.length (0 : Int)).length = ns.length := List.length_replicate
  generalize List.replicate ns.length (0 : Int) = zs at HOO HST hrl
  go_wp2_with fail
  go_loopw [28] (fun i wr => ∃ m : Nat, m ≤ gv.length ∧ i = .int .i64 m ∧ Hid (OwnI wr g (.slice (some ⟨g, 0, none⟩) ns.length ns.length) (putTo zs ks gv m) ∧ w6.grownBy wr (some g))) (fun i _ => gv.length - (intOf i).toNat)
  case atStart => exact ⟨0, Nat.zero_le _, rfl, HOO.out, g_of (Below.refl _ _) _⟩
  case round =>
    obtain ⟨m, hm, rfl, HM⟩ := hrel
    by_cases hlm : m < gv.length
    · have hka := (HKK.out.apart HM.out.2 (fun q hq => by have e := Option.some.inj hq; omega)).at_
      have hga2 := (HGG.out.apart HM.out.2 (fun q hq => by have e := Option.some.inj hq; omega)).at_
      rcases hka with rfl | ⟨gk, ok, rfl, hkc⟩
      · have : gv.length ≤ 0 := hgl
        omega
      rcases hga2 with rfl | ⟨gg, og, rfl, hgc⟩
      · simp at hlm
      have c1 := hkc m (by omega)
      have c2 := hgc m hlm
      obtain ⟨j, hj, hjl⟩ := HKM.out _ (getD_mem (zs := ks) (k := m) (by omega))
      have hpl := putTo_len zs ks gv m
      have c3 := HM.out.1.cell (j := j) (by omega)
      have c4 := HM.out.1.frozen j
      have hst := HM.out.1.set_ j (gv.getD m 0)
      have hps := putTo_succ zs ks gv m
      rw [hj, show ((j : Int)).toNat = j from by omega] at hps
      rw [← hps] at hst
      rw [hj] at c1
      have HS : Hid (OwnI (wr.setCell ⟨g, j, none⟩ (.int .i64 (gv.getD m 0))) g (.slice (some ⟨g, 0, none⟩) ns.length ns.length) (putTo zs ks gv (m + 1)) ∧ w6.grownBy (wr.setCell ⟨g, j, none⟩ (.int .i64 (gv.getD m 0))) (some g)) := ⟨hst, g_set2 HM.out.2⟩
      have b0 : (0 : Int) ≤ (j : Int) := by omega
      have b1 : (j : Int) < (ns.length : Int) := by omega
      have b2 : (m : Int) < (gv.length : Int) := by omega
      have b3 : (m : Int) < (ks.length : Int) := by omega
      have b4 : (0 : Int) ≤ (m : Int) := by omega
      generalize gv.getD m 0 = y at c2 HS
      generalize (putTo zs ks gv m).getD j 0 = y3 at c3
      clear hkc hgc hst hps hj hpl HM hrl
      go_wp2_with fail
      go_roundw
      case rel => exact ⟨m + 1, by omega, by go_num, HS.out⟩
      case measure => simp [intOf]; omega
    · have HE : Hid (OwnI wr g (.slice (some ⟨g, 0, none⟩) ns.length ns.length) (unitsF ns k c) ∧ Below w.heap.size w wr) := by
        refine ⟨?_, below_gv HBB.out HM.out.2 (fun q hq => by have e := Option.some.inj hq; omega)⟩
        rw [HST.out]
        have := HM.out.1
        rw [show m = gv.length from by omega] at this
        exact this
      clear HM hrl
      go_wp2_with fail
      go_ret
      exact ⟨_, rfl, by rw [hg]; exact HE.out.1, HE.out.2⟩
end Go.Proofs.Ytigapnbpgbfbhaa
