/- Measures, by the model: which ones are valid, what is expected, missing and measured, and who is suspected. Condition: at most 1048576 nodes and numbers. -/
import Derived.Test.YtigapnbpgbfbhaaFlowT
import Derived.Test.YtigapnbpgbfbhaaMeaP
import Derived.Test.YtigapnbpgbfbhaaFlowU
import Derived.Deep.RegionHeld3
import Derived.StillTailTactics
namespace Go.Proofs.Ytigapnbpgbfbhaa
open Go.RowKit
set_option linter.unusedSimpArgs false
set_option linter.unusedVariables false
/-- numbers laid at the kids of a node, as a step -/
theorem put_step {ns : List Nd} (hv : vnB ns = true) {fl : Int} {g : List Int → Nat → Nat → Int} (hg : KidsOnly ns g) {k : Nat} (hk : k < ns.length) {vs : List Int} (hvs : ∀ i, i < (kidsF ns (k : Int)).length → vs.getD i 0 = g (gTo ns (begT ns.length fl) g k) k ((kidsF ns (k : Int)).getD i 0).toNat) :
    putTo (gTo ns (begT ns.length fl) g k) (kidsF ns (k : Int)) vs (kidsF ns (k : Int)).length = gTo ns (begT ns.length fl) g (k + 1) := by
  have hl := gTo_len g (begT_len ns.length fl) k
  refine ext_z (by rw [putTo_len, hl, gTo_succ, mkZ_len]) (fun j hj => ?_)
  rw [putTo_len, hl] at hj
  by_cases hp : (ns.getD j nd0).1 = (k : Int)
  · obtain ⟨i, hi, he⟩ := kid_pos hp hj
    have b := vn_parI hv hj
    have e := putTo_at (cs := gTo ns (begT ns.length fl) g k) (vs := vs) (kid_ne (ns := ns) (at_ := (k : Int))) (fun i hi => by rw [hl]; exact kids_lt ns _ i hi) (i := i) _ hi (Nat.le_refl _)
    have h2 := hvs i hi
    rw [he, show ((j : Int)).toNat = j from by omega] at e h2
    rw [e, h2, gTo_succ, mkZ_get _ hj, gTo_early hg hj k (fun m hm c => by omega), begT_get fl j (by omega), if_neg (by omega), Int.zero_add]
  · rw [gTo_stay hg hj hp]
    refine putTo_other _ (fun i hi c => ?_)
    obtain ⟨q, hq, _, hqp⟩ := kid_at (ns := ns) (at_ := (k : Int)) hi
    rw [hq] at c
    have : q = j := by omega
    rw [this] at hqp
    exact hp hqp
theorem giveS_kid {ns : List Nd} {k i : Nat} (c : Int) (hi : i < (kidsF ns (k : Int)).length) : (giveS ns (k : Int) (passV (ns.getD k nd0) c)).getD i 0 = (unitsF ns k c).getD ((kidsF ns (k : Int)).getD i 0).toNat 0 := by
  rw [unitsF_kid c hi]
  unfold giveS
  by_cases hw : vwB (wts ns (k : Int)) = true
  · rw [if_pos hw, if_pos hw]
  · rw [if_neg hw, if_neg hw, repl_get]
theorem exp_put {ns : List Nd} {ms : List Int} (hv : vnB ns = true) {k : Nat} (hk : k < ns.length) : putTo (expTo ns ms k) (kidsF ns (k : Int)) (giveS ns (k : Int) (passV (ns.getD k nd0) (ms.getD k 0))) (kidsF ns (k : Int)).length = expTo ns ms (k + 1) :=
  put_step hv (gE_kids ns ms) hk (fun i hi => giveS_kid _ hi)
/-- what is measured at the kids -/
def lesV (gs ks ts : List Int) : List Int := mkZ gs.length fun i => gs.getD i 0 - min (gs.getD i 0) (ts.getD (ks.getD i 0).toNat 0)
theorem lesV_len (gs ks ts : List Int) : (lesV gs ks ts).length = gs.length := by unfold lesV; rw [mkZ_len]
theorem lesV_get {gs ks ts : List Int} {i : Nat} (h : i < gs.length) : (lesV gs ks ts).getD i 0 = gs.getD i 0 - min (gs.getD i 0) (ts.getD (ks.getD i 0).toNat 0) := by unfold lesV; rw [mkZ_get _ h]
theorem mea_put {ns : List Nd} {fl : Int} {ts : List Int} (hv : vnB ns = true) (ht : ∀ j, 0 ≤ ts.getD j 0) {k : Nat} (hk : k < ns.length) : putTo (meaTo ns fl ts k) (kidsF ns (k : Int)) (lesV (giveS ns (k : Int) (passV (ns.getD k nd0) ((meaTo ns fl ts k).getD k 0))) (kidsF ns (k : Int)) ts) (kidsF ns (k : Int)).length = meaTo ns fl ts (k + 1) :=
  put_step hv (gM_kids ht) hk (fun i hi => by
    rw [lesV_get (by rw [giveS_len]; exact hi), giveS_kid _ hi]; rfl)
theorem giveS_bd {ns : List Nd} (hv : vnB ns = true) {k : Nat} (hk : k < ns.length) {c : Int} (hc : 0 ≤ c ∧ c ≤ 500) {i : Nat} (hi : i < (giveS ns (k : Int) (passV (ns.getD k nd0) c)).length) : 0 ≤ (giveS ns (k : Int) (passV (ns.getD k nd0) c)).getD i 0 ∧ (giveS ns (k : Int) (passV (ns.getD k nd0) c)).getD i 0 ≤ 500 := by
  rw [giveS_len] at hi
  rw [giveS_kid c hi]
  have := unitsF_bd hv hk hc ((kidsF ns (k : Int)).getD i 0).toNat
  omega
set_option maxRecDepth 100000 in
set_option maxHeartbeats 8000000 in
/-- spec.validMeasures -/
theorem svM (a b : Option Addr) (cap cb : Nat) (ns : List Nd) (ms : List Int) (w : World) (h : IsNd w a ns) (hb : IsInts w b ms) (hn : ns.length ≤ 1048576) (hm : ms.length ≤ 1048576) :
    Calls Try.prog 43 #[.slice a ns.length cap, .slice b ms.length cb] w fun e w' => e = .returned (.bool (vmB ns ms)) ∧ Below w.heap.size w w' := by
  have VN := svn a cap ns w h hn
  have HVM : Hid (vmB ns ms = (vnB ns && (decide (ms.length = ns.length) && allB ms 500))) := rfl
  have hend : allB ms 500 = true → Calls Try.prog 58 #[.slice a ns.length cap] w fun e w' => e = .returned (.bool (vnB ns)) ∧ Below w.heap.size w w' := fun _ => VN
  have HVN := Lib.hid VN
  clear VN h hend
  generalize vnB ns = t at HVN HVM
  have HEE : Hid (((ms.length : Int) == (ns.length : Int)) = decide (ms.length = ns.length)) := by
    show _ = _
    by_cases e : ms.length = ns.length
    · rw [decide_eq_true e, e]; exact beq_self_eq_true _
    · rw [decide_eq_false e]; exact beq_eq_false_iff_ne.2 (by omega)
  have HEN : Hid ((ms.length == ns.length) = decide (ms.length = ns.length)) := by
    show _ = _
    by_cases e : ms.length = ns.length
    · rw [decide_eq_true e, e]; exact beq_self_eq_true _
    · rw [decide_eq_false e]; exact beq_eq_false_iff_ne.2 e
  have hne : decide (ms.length = ns.length) = false → ¬ (ms.length : Int) = (ns.length : Int) := fun e c => by have := of_decide_eq_false e; omega
  have hye : decide (ms.length = ns.length) = true → ms.length = ns.length := of_decide_eq_true
  have HNE := Lib.hid hne
  have HYE := Lib.hid hye
  clear hne hye
  have finish : ∀ K : Act → World → Prop, True := fun _ => trivial
  clear finish
  rcases hb with rfl | ⟨gm, om, rfl, hmc⟩
  · have HV : Hid (vmB ns [] = (t && decide (([] : List Int).length = ns.length))) := by show _ = _; rw [HVM.out]; simp [allB]
    generalize decide (([] : List Int).length = ns.length) = d at HV HEE HEN HNE HYE
    go_enter Try.func43, Try.ntmps43
    go_wp2_with fail
    refine wp_loop_rounds 1 ?_
    rw [rounds_succ]
    go_wp2_with fail
    refine HVN.out.mono ?_
    rintro e w1 ⟨rfl, C⟩
    have e1 := HEE.out
    have e2 := HEN.out
    cases t with
    | false =>
      go_wp2_with fail
      go_ret
      exact ⟨ret_bool (by rw [HV.out]; rfl), C⟩
    | true =>
      cases d with
      | false =>
        have e3 := HNE.out rfl
        have e4 : ¬ ns.length = 0 := fun c => e3 (by rw [c]; rfl)
        go_wp2_with fail
        go_ret
        exact ⟨ret_bool (by rw [HV.out]; simp; first | done | omega), C⟩
      | true =>
        have e3 := HYE.out rfl
        have e4 : ns.length = 0 := e3.symm
        go_wp2_with fail
        go_ret
        exact ⟨ret_bool (by rw [HV.out]; simp [e4]), C⟩
  have HMC := Lib.hid hmc
  clear hmc
  go_enter Try.func43, Try.ntmps43
  go_wp2_with fail
  go_loopw [5] (fun i wr => ∃ k : Nat, k ≤ ms.length ∧ i = .int .i64 k ∧ Hid (∀ j, j < k → 0 ≤ ms.getD j 0 ∧ ms.getD j 0 ≤ 500) ∧ wr = w) (fun i _ => ms.length - (intOf i).toNat)
  case atStart => exact ⟨0, Nat.zero_le _, rfl, (fun j hj => absurd hj (Nat.not_lt_zero _)), rfl⟩
  case round =>
    obtain ⟨k, hk, rfl, HA, rfl⟩ := hrel
    by_cases hlt : k < ms.length
    · have c1 := HMC.out k hlt
      have HN : Hid (¬ (0 ≤ ms.getD k 0 ∧ ms.getD k 0 ≤ 500) → vmB ns ms = false) := fun e => by
        rw [HVM.out, allB_no hlt (by omega)]; simp
      have HY : Hid ((0 ≤ ms.getD k 0 ∧ ms.getD k 0 ≤ 500) → ∀ j, j < k + 1 → 0 ≤ ms.getD j 0 ∧ ms.getD j 0 ≤ 500) := fun e j hj => by
        by_cases c : j = k
        · rw [c]; exact e
        · exact HA.out j (by omega)
      have k0 : (0 : Int) ≤ (k : Int) := by omega
      have k1 : (k : Int) < (ms.length : Int) := by omega
      generalize ms.getD k 0 = z at c1 HN HY
      clear HA
      by_cases p : 0 ≤ z ∧ z ≤ 500
      · have HR := Lib.hid (HY.out p)
        go_wp2_with fail
        refine (inRange_yes z 0 500 _ p.1 p.2).mono ?_
        rintro e w' ⟨rfl, rfl⟩
        go_wp2_with fail
        go_roundw
        case rel => exact ⟨k + 1, by omega, by go_num, HR.out, by trivial⟩
        case measure => simp [intOf]; omega
      · have HR := Lib.hid (HN.out p)
        go_wp2_with fail
        refine (inRange_no z 0 500 _ (by omega)).mono ?_
        rintro e w' ⟨rfl, rfl⟩
        go_wp2_with fail
        go_ret
        exact ⟨ret_bool HR.out.symm, by go_grown⟩
    · have HR : Hid (vmB ns ms = (t && decide (ms.length = ns.length))) := by
        show _ = _; rw [HVM.out, allB_yes (fun j hj => HA.out j (by omega))]; simp
      clear HA
      have e1 := HEE.out
      have e2 := HEN.out
      generalize decide (ms.length = ns.length) = d at HR e1 e2 HNE HYE
      go_wp2_with fail
      refine HVN.out.mono ?_
      rintro e w1 ⟨rfl, C⟩
      cases t with
      | false =>
        go_wp2_with fail
        go_ret
        exact ⟨ret_bool (by rw [HR.out]; rfl), C⟩
      | true =>
        cases d with
        | false =>
          have e3 := HNE.out rfl
          go_wp2_with fail
          go_ret
          exact ⟨ret_bool (by rw [HR.out]; rfl), C⟩
        | true =>
          have e3 := HYE.out rfl
          go_wp2_with fail
          go_ret
          exact ⟨ret_bool (by rw [HR.out]; rfl), C⟩
set_option maxRecDepth 100000 in
set_option maxHeartbeats 8000000 in
/-- spec.expected -/
theorem sExpd (a b : Option Addr) (cap cb : Nat) (ns : List Nd) (ms : List Int) (w : World) (h : IsNd w a ns) (hb : IsInts w b ms) (hvm : vmB ns ms = true) :
    Calls Try.prog 44 #[.slice a ns.length cap, .slice b ms.length cb] w (OutI w (expF ns ms)) := by
  obtain ⟨hv, hml, hma⟩ := vm_is hvm
  obtain ⟨l1, l12, _⟩ := vn_is hv
  have hmk := run_make_row' (P := Try.prog) 23 3 (.int .i64 0) 8 Try.underlying23 infoInt rfl .i64 .i64 ns.length (by omega) (by omega)
  have HKID := Lib.hid (fun (W : World) (hW : Below w.heap.size w W) (k : Nat) => skids a cap ns (k : Int) W (nd_below h hW) hv)
  have HSHR := Lib.hid (fun (W : World) (hW : Below w.heap.size w W) (k : Nat) (p : Int) (hp : 0 ≤ p ∧ p ≤ 500) => sshare a cap ns k p W (nd_below h hW) hv hp)
  have HV := Lib.hid hv
  rcases h with rfl | ⟨g0, o, rfl, hc⟩
  · simp at l1
  have HC := Lib.hid hc
  have i0 : (0 : Int) < (ns.length : Int) := by omega
  have n0 : 0 < ns.length := by omega
  have hn : ns.length ≤ 1048576 := by omega
  have HML := Lib.hid hml
  have HMB : Hid (∀ j, 0 ≤ ms.getD j 0 ∧ ms.getD j 0 ≤ 500) := allM_get hma
  rcases hb with rfl | ⟨gm, om, rfl, hmc⟩
  · simp at hml; omega
  have HMC := Lib.hid hmc
  have m0 := hmc 0 (by omega)
  rw [show om + 0 = om from rfl] at m0
  have i1 : (0 : Int) < (ms.length : Int) := by omega
  have n1 : 0 < ms.length := by omega
  have HST0 : Hid (expTo ns ms 0 = (List.replicate ns.length 0).set 0 (ms.getD 0 0)) := rfl
  generalize ms.getD 0 0 = f0 at m0 HST0
  have hM := OwnI.made (Below.refl w.heap.size w) ns.length hn
  have hz := hM.cell (j := 0) (by rw [List.length_replicate]; omega)
  have hzf := hM.frozen 0
  have hO0 := hM.set_ 0 f0
  obtain ⟨g, hg⟩ : ∃ g, w.heap.size = g := ⟨_, rfl⟩
  have hgw : w.heap.size ≤ g := by rw [← hg]; exact ((Below.refl w.heap.size w)).size
  rw [hg] at hz hzf hO0
  rw [List.getD_eq_getElem?_getD, List.getElem?_replicate, if_pos (by omega)] at hz
  dsimp only [Option.getD_some] at hz
  have hB0 : Below w.heap.size w ((w.alloc (.cells (madeCells #[.int .i64 0] ns.length) 3)).setCell ⟨g, 0, none⟩ (.int .i64 f0)) := (((Below.refl w.heap.size w)).alloc ((Below.refl w.heap.size w)).size _).setCell (p := ⟨g, 0, none⟩) hgw _
  rw [World.setCell_alloc_at _ _ _ _ _ hg.symm] at hO0 hB0
  have HO0 := Lib.hid hO0
  have HB0 := Lib.hid hB0
  clear hM hO0 hB0
  have m2 : (w.alloc (.cells (madeCells #[.int .i64 0] ns.length) 3)).cell? ⟨gm, om, none⟩ = some (.int .i64 f0) := (World.cell?_alloc_lt w _ _ (World.block_lt_of_cell? w _ m0)).trans m0
  rw [← HST0.out] at HO0
  clear hc hvm hv hml hmc hma m0
  go_enter Try.func44, Try.ntmps44
  go_wp2_with fail
  clear hmk hz hzf m2
  have HG := Lib.hid hg
  clear hg
  go_loopw [6] (fun i wr => ∃ k : Nat, k ≤ ns.length ∧ i = .int .i64 k ∧ OwnI wr w.heap.size (.slice (some ⟨g, 0, none⟩) ns.length ns.length) (expTo ns ms k) ∧ Below w.heap.size w wr) (fun i _ => ns.length - (intOf i).toNat)
  case atStart => exact ⟨0, Nat.zero_le _, rfl, by rw [HG.out]; exact HO0.out, HB0.out⟩
  case round =>
    clear HO0 HB0
    obtain ⟨k, hk, rfl, hO, hB⟩ := hrel
    by_cases hlt : k < ns.length
    · have CK := HKID.out wr hB k
      obtain ⟨q1, q2, q3, q4⟩ := vn_at HV.out hlt
      have hkl := kids_len ns (k : Int)
      have HKM : Hid (∀ z ∈ kidsF ns (k : Int), ∃ j : Nat, z = (j : Int) ∧ j < ns.length) := fun z hz => by obtain ⟨j, a, b, _⟩ := kids_bd hz; exact ⟨j, a, b⟩
      have HO := Lib.hid hO
      have HB := Lib.hid hB
      have hgb := hO.blk
      have k0 : (0 : Int) ≤ (k : Int) := by omega
      have k1 : (k : Int) < (ns.length : Int) := by omega
      clear hO hB
      go_wp2_with fail
      refine CK.mono ?_
      rintro e w3 ⟨v7, rfl, hK, hB3⟩
      obtain ⟨kb, kcp, rfl, _⟩ := hK.ints
      have B3 := Lib.hid (bel_tr HB.out hB3)
      have O3 := Lib.hid (HO.out.of_block hB3)
      have s3 := hB3.size
      have kc0 := HMC.out k (by have := HML.out; omega)
      have kc := (B3.out.cell (World.block_lt_of_cell? w _ kc0)).trans kc0
      have hcb := HMB.out k
      have km1 : (k : Int) < (ms.length : Int) := by have := HML.out; omega
      clear kc0
      obtain ⟨c0, c1, c2, c3, c4⟩ := nd_at HC.out B3.out hlt
      have HK := Lib.hid hK
      have HST := Lib.hid (exp_put (ms := ms) HV.out hlt)
      have hgl := giveS_len ns (k : Int) (passV (ns.getD k nd0) (ms.getD k 0))
      have hpb := pass_bd (x := ns.getD k nd0) q3.1 hcb.1 q2.1
      have HGB := Lib.hid (fun i => giveS_bd (ns := ns) HV.out hlt hcb (i := i))
      have HSH := Lib.hid (fun (W : World) (hW : Below w.heap.size w W) => HSHR.out W hW k (passV (ns.getD k nd0) (ms.getD k 0)) (by omega))
      generalize (ms.getD k 0) = c at hcb kc HST hgl HSH hpb HGB
      have CP := fun W => spassing (ns.getD k nd0).1 (ns.getD k nd0).2.1 (ns.getD k nd0).2.2.1 (ns.getD k nd0).2.2.2.1 (ns.getD k nd0).2.2.2.2 c W hcb q2 q3
      change ∀ W, Calls _ _ _ W (fun e w' => e = .returned (.int .i64 (passV (ns.getD k nd0) c)) ∧ Below W.heap.size W w') at CP
      generalize ns.getD k nd0 = nd at c0 c1 c2 c3 c4 CP HST hgl q2 q3 HSH hpb HGB
      obtain ⟨x0, x1, x2, x3, x4⟩ := nd
      dsimp only at c0 c1 c2 c3 c4 CP
      generalize passV (x0, x1, x2, x3, x4) c = p at CP HST hgl HSH hpb HGB
      clear CK hK hB3 HO HB q1 q2 q3 q4 hcb hpb
      go_wp2_with fail
      refine wp_region_held_drew (S := (fun W' => (W'.cell? ⟨g0, o + k * 5, none⟩ = some (.int .i64 x0) ∧ W'.cell? ⟨g0, o + k * 5 + 1, none⟩ = some (.int .i64 x1) ∧ W'.cell? ⟨g0, o + k * 5 + 2, none⟩ = some (.int .i64 x2) ∧ W'.cell? ⟨g0, o + k * 5 + 3, none⟩ = some (.int .i64 x3) ∧ W'.cell? ⟨g0, o + k * 5 + 4, none⟩ = some (.int .i64 x4) ∧ W'.cell? ⟨gm, om + k, none⟩ = some (.int .i64 c)) ∧ Below w3.heap.size w3 W')) (by kernel_rfl) ?_ (fun hHeld => ?_)
      · exact ⟨⟨c0, c1, c2, c3, c4, kc⟩, (Below.refl _ _).drew⟩
      refine wpAnyH_take (i := 0) (oi := ?ooa0) (v := ?vva0) ?hia0 (by kernel_rfl) ?h3a0 ?h4a0 ?h5a0 ?h6a0 (by assumption) ?h8a0
      case hia0 => (simp only [List.getElem?_toArray, List.getElem?_cons_succ, List.getElem?_cons_zero]; rfl)
      case h3a0 => kernel_rfl
      case h4a0 => kernel_rfl
      case h6a0 => (refine Or.inl ⟨by rfl, ?_⟩; intro w hSw; (try dsimp only at hSw); (go_simp <;> with_reducible rfl))
      case h5a0 => exact fun _ _ _ h => h
      try simp only [Act.put, List.setIfInBounds_toArray, List.set_cons_zero, List.set_cons_succ]
      refine wpAnyH_take (i := 1) (oi := ?ooa1) (v := ?vva1) ?hia1 (by kernel_rfl) ?h3a1 ?h4a1 ?h5a1 ?h6a1 (by assumption) ?h8a1
      case hia1 => (simp only [List.getElem?_toArray, List.getElem?_cons_succ, List.getElem?_cons_zero]; rfl)
      case h3a1 => kernel_rfl
      case h4a1 => kernel_rfl
      case h6a1 => (refine Or.inl ⟨by rfl, ?_⟩; intro w hSw; (try dsimp only at hSw); (go_simp <;> with_reducible rfl))
      case h5a1 => exact fun _ _ _ h => h
      try simp only [Act.put, List.setIfInBounds_toArray, List.set_cons_zero, List.set_cons_succ]
      refine wpAnyH_take (i := 2) (oi := ?ooa2) (v := ?vva2) ?hia2 (by kernel_rfl) ?h3a2 ?h4a2 ?h5a2 ?h6a2 (by assumption) ?h8a2
      case hia2 => (simp only [List.getElem?_toArray, List.getElem?_cons_succ, List.getElem?_cons_zero]; rfl)
      case h3a2 => kernel_rfl
      case h4a2 => kernel_rfl
      case h6a2 => (refine Or.inl ⟨by rfl, ?_⟩; intro w hSw; (try dsimp only at hSw); (go_simp <;> with_reducible rfl))
      case h5a2 => exact fun _ _ _ h => h
      try simp only [Act.put, List.setIfInBounds_toArray, List.set_cons_zero, List.set_cons_succ]
      refine wpAnyH_take (i := 3) (oi := ?ooa3) (v := ?vva3) ?hia3 (by kernel_rfl) ?h3a3 ?h4a3 ?h5a3 ?h6a3 (by assumption) ?h8a3
      case hia3 => (simp only [List.getElem?_toArray, List.getElem?_cons_succ, List.getElem?_cons_zero]; rfl)
      case h3a3 => kernel_rfl
      case h4a3 => kernel_rfl
      case h6a3 => (refine Or.inl ⟨by rfl, ?_⟩; intro w hSw; (try dsimp only at hSw); (go_simp <;> with_reducible rfl))
      case h5a3 => exact fun _ _ _ h => h
      try simp only [Act.put, List.setIfInBounds_toArray, List.set_cons_zero, List.set_cons_succ]
      refine wpAnyH_take (i := 4) (oi := ?ooa4) (v := ?vva4) ?hia4 (by kernel_rfl) ?h3a4 ?h4a4 ?h5a4 ?h6a4 (by assumption) ?h8a4
      case hia4 => (simp only [List.getElem?_toArray, List.getElem?_cons_succ, List.getElem?_cons_zero]; rfl)
      case h3a4 => kernel_rfl
      case h4a4 => kernel_rfl
      case h6a4 => (refine Or.inl ⟨by rfl, ?_⟩; intro w hSw; (try dsimp only at hSw); (go_simp <;> with_reducible rfl))
      case h5a4 => exact fun _ _ _ h => h
      try simp only [Act.put, List.setIfInBounds_toArray, List.set_cons_zero, List.set_cons_succ]
      refine wpAnyH_take (i := 5) (oi := ?ooa5) (v := ?vva5) ?hia5 (by kernel_rfl) ?h3a5 ?h4a5 ?h5a5 ?h6a5 (by assumption) ?h8a5
      case hia5 => (simp only [List.getElem?_toArray, List.getElem?_cons_succ, List.getElem?_cons_zero]; rfl)
      case h3a5 => kernel_rfl
      case h4a5 => kernel_rfl
      case h6a5 => (refine Or.inl ⟨by rfl, ?_⟩; intro w hSw; (try dsimp only at hSw); (go_simp <;> with_reducible rfl))
      case h5a5 => exact fun _ _ _ h => h
      try simp only [Act.put, List.setIfInBounds_toArray, List.set_cons_zero, List.set_cons_succ]
      refine wpAnyH_take (i := 6) (oi := ?ooa6) (v := ?vva6) ?hia6 (by kernel_rfl) ?h3a6 ?h4a6 ?h5a6 ?h6a6 (by assumption) ?h8a6
      case hia6 => (simp only [List.getElem?_toArray, List.getElem?_cons_succ, List.getElem?_cons_zero]; rfl)
      case h3a6 => kernel_rfl
      case h4a6 => kernel_rfl
      case h6a6 => (refine Or.inl ⟨by rfl, ?_⟩; intro w hSw; (try dsimp only at hSw); (go_simp <;> with_reducible rfl))
      case h5a6 => exact fun _ _ _ h => h
      try simp only [Act.put, List.setIfInBounds_toArray, List.set_cons_zero, List.set_cons_succ]
      refine wpAnyH_take (i := 7) (oi := ?ooa7) (v := ?vva7) ?hia7 (by kernel_rfl) ?h3a7 ?h4a7 ?h5a7 ?h6a7 (by assumption) ?h8a7
      case hia7 => (simp only [List.getElem?_toArray, List.getElem?_cons_succ, List.getElem?_cons_zero]; rfl)
      case h3a7 => kernel_rfl
      case h4a7 => kernel_rfl
      case h6a7 => (refine Or.inl ⟨by rfl, ?_⟩; intro w hSw; (try dsimp only at hSw); (go_simp <;> with_reducible rfl))
      case h5a7 => exact fun _ _ _ h => h
      try simp only [Act.put, List.setIfInBounds_toArray, List.set_cons_zero, List.set_cons_succ]
      refine wpAnyH_take (i := 8) (oi := ?ooa8) (v := ?vva8) ?hia8 (by kernel_rfl) ?h3a8 ?h4a8 ?h5a8 ?h6a8 (by assumption) ?h8a8
      case hia8 => (simp only [List.getElem?_toArray, List.getElem?_cons_succ, List.getElem?_cons_zero]; rfl)
      case h3a8 => kernel_rfl
      case h4a8 => kernel_rfl
      case h6a8 => (refine Or.inl ⟨by rfl, ?_⟩; intro w hSw; (try dsimp only at hSw); (go_simp <;> with_reducible rfl))
      case h5a8 => exact fun _ _ _ h => h
      try simp only [Act.put, List.setIfInBounds_toArray, List.set_cons_zero, List.set_cons_succ]
      refine wpAnyH_take (i := 9) (oi := ?ooa9) (v := ?vva9) ?hia9 (by kernel_rfl) ?h3a9 ?h4a9 ?h5a9 ?h6a9 (by assumption) ?h8a9
      case hia9 => (simp only [List.getElem?_toArray, List.getElem?_cons_succ, List.getElem?_cons_zero]; rfl)
      case h3a9 => kernel_rfl
      case h4a9 => kernel_rfl
      case h6a9 => (refine Or.inl ⟨by rfl, ?_⟩; intro w hSw; (try dsimp only at hSw); (go_simp <;> with_reducible rfl))
      case h5a9 => exact fun _ _ _ h => h
      try simp only [Act.put, List.setIfInBounds_toArray, List.set_cons_zero, List.set_cons_succ]
      refine wpAnyH_ready (rs := [10]) (by kernel_rfl) (by simp) (AllReadyH.cons (o := ?ooa10) ?hia10 (fun K hK => ?hka10) AllReadyH.nil)
      rotate_left
      case hia10 => (simp only [List.getElem?_toArray, List.getElem?_cons_succ, List.getElem?_cons_zero]; rfl)
      (rw [if_pos (by rfl)]; go_simp; refine (CP _).mono ?_; rintro e wq ⟨rfl, hb⟩; go_wp2_with fail; refine hK.out _ _ (kp6 hb hHeld) (fun hHeld => ?_); clear hK K)
      try simp only [Act.put, List.setIfInBounds_toArray, List.set_cons_zero, List.set_cons_succ]
      refine wpAnyH_ready (rs := [11]) (by kernel_rfl) (by simp) (AllReadyH.cons (o := ?ooa11) ?hia11 (fun K hK => ?hka11) AllReadyH.nil)
      rotate_left
      case hia11 => (simp only [List.getElem?_toArray, List.getElem?_cons_succ, List.getElem?_cons_zero]; rfl)
      (rw [if_pos (by rfl)]; go_simp; refine (HSH.out _ (bel_tr B3.out hHeld.2)).mono ?_; rintro e wp ⟨v8, rfl, hG, hb2⟩; obtain ⟨gb, gcp, rfl, _⟩ := hG.ints; go_wp2_with fail; refine hK.out _ _ (kp6 hb2 hHeld) (fun hHeld => ?_); clear hK K)
      try simp only [Act.put, List.setIfInBounds_toArray, List.set_cons_zero, List.set_cons_succ]
      refine wpAnyH_take (i := 12) (oi := ?ooa12) (v := ?vva12) ?hia12 (by kernel_rfl) ?h3a12 ?h4a12 ?h5a12 ?h6a12 (by assumption) ?h8a12
      case hia12 => (simp only [List.getElem?_toArray, List.getElem?_cons_succ, List.getElem?_cons_zero]; rfl)
      case h3a12 => kernel_rfl
      case h4a12 => kernel_rfl
      case h6a12 => (refine Or.inl ⟨by rfl, ?_⟩; intro w hSw; (try dsimp only at hSw); (go_simp <;> with_reducible rfl))
      case h5a12 => exact fun _ _ _ h => h
      try simp only [Act.put, List.setIfInBounds_toArray, List.set_cons_zero, List.set_cons_succ]
      refine wpAnyH_done (by kernel_rfl) ?_ _
      have hW2 : Below w3.heap.size w3 wp := hHeld.2
      have B5 := bel_tr B3.out hW2
      have O5 := O3.out.of_block hW2
      have K5 := HK.out.of_block hW2
      have hcl := expTo_len ns ms k
      have s5 : w3.heap.size ≤ wq.heap.size := hb.size
      have s6 := hb2.size
      have s7 := hHeld.2.size
      clear hHeld hb hb2 hW2 CP HSH c0 c1 c2 c3 c4 kc B3 O3 HK
      generalize kidsF ns (k : Int) = ks at K5 HKM hkl hgl HST
      generalize giveS ns (k : Int) p = gv at hG hgl HST HGB
      generalize expTo ns ms k = cs at O5 hcl HST
      have HO5 := Lib.hid O5
      have HK5 := Lib.hid K5
      have HG5 := Lib.hid hG
      have HB5 := Lib.hid B5
      clear O5 K5 hG B5
      go_wp2_with fail
      go_loopw [9] (fun i wr => ∃ m : Nat, m ≤ gv.length ∧ i = .int .i64 m ∧ Hid (OwnI wr w.heap.size (.slice (some ⟨g, 0, none⟩) ns.length ns.length) (putTo cs ks (gv) m) ∧ wp.grownBy wr (some g))) (fun i _ => gv.length - (intOf i).toNat)
      case atStart => exact ⟨0, Nat.zero_le _, rfl, HO5.out, g_of (Below.refl _ _) _⟩
      case round =>
        obtain ⟨m, hm, rfl, HM⟩ := hrel
        by_cases hlm : m < gv.length
        · have hka := HK5.out.apart HM.out.2 (fun q hq => by have e := Option.some.inj hq; omega)
          have hga2 := HG5.out.apart HM.out.2 (fun q hq => by have e := Option.some.inj hq; omega)
          obtain ⟨gk, rfl, nk'⟩ := hka.form_ (by omega)
          obtain ⟨gg, rfl, ng'⟩ := hga2.form_ (by omega)
          have nk : g ≠ gk := by omega
          have ng : g ≠ gg := by omega
          have c1 := hka.cell (j := m) (by omega)
          have c2 := hga2.cell hlm
          obtain ⟨j, hj, hjl⟩ := HKM.out _ (getD_mem (zs := ks) (k := m) (by omega))
          have hpl := putTo_len cs ks (gv) m
          have c3 := HM.out.1.cell (j := j) (by omega)
          have c4 := HM.out.1.frozen j
          have hst := HM.out.1.set_ j ((gv).getD m 0)
          have hps := putTo_succ cs ks (gv) m
          rw [hj, show ((j : Int)).toNat = j from by omega] at hps
          rw [← hps] at hst
          rw [hj] at c1
          have HS : Hid (∀ n : Nat, OwnI ((wr.drewN n).setCell ⟨g, j, none⟩ (.int .i64 ((gv).getD m 0))) w.heap.size (.slice (some ⟨g, 0, none⟩) ns.length ns.length) (putTo cs ks (gv) (m + 1)) ∧ wp.grownBy ((wr.drewN n).setCell ⟨g, j, none⟩ (.int .i64 ((gv).getD m 0))) (some g)) := fun n => ⟨hst, g_set2 (g_drewN HM.out.2 n)⟩
          have b0 : (0 : Int) ≤ (j : Int) := by omega
          have b1 : (j : Int) < (ns.length : Int) := by omega
          have b2 : (m : Int) < (gv.length : Int) := by omega
          have b3 : (m : Int) < (ks.length : Int) := by omega
          have b4 : (0 : Int) ≤ (m : Int) := by omega
          have bg := HGB.out m hlm

          generalize gv.getD m 0 = y at c2 HS bg
          generalize (putTo cs ks (gv) m).getD j 0 = y3 at c3
          clear hst hps hj hpl hka hga2 HM
          go_wp2_with fail
          refine wp_region_still_tail 10 (by kernel_rfl) (by kernel_rfl) ?_
          simp only [List.take_succ_cons, List.take_zero, List.drop_succ_cons, List.drop_zero]
          iterate 10 still_step
          refine wpStill_nil ?_
          change wpList _ _ _ _ _ wr.drew
          go_wp2_with fail
          go_roundw
          case rel => exact ⟨m + 1, by omega, by go_num, HS.out 1⟩
          case measure => simp [intOf]; omega
        · have HE : Hid (OwnI wr w.heap.size (.slice (some ⟨g, 0, none⟩) ns.length ns.length) (expTo ns ms (k + 1)) ∧ Below w.heap.size w wr) := by
            refine ⟨?_, below_gv HB5.out HM.out.2 (fun q hq => by have e := Option.some.inj hq; omega)⟩
            rw [← HST.out]
            have := HM.out.1
            rw [show m = ks.length from by omega] at this
            exact this
          have hmk2 : (m : Int) = (ks.length : Int) := by omega
          clear HM
          go_wp2_with fail
          go_roundw
          case rel => exact ⟨k + 1, by omega, by go_num, HE.out⟩
          case measure => simp [intOf]; omega
    · have HO := Lib.hid hO
      have HB := Lib.hid hB
      clear hO hB
      go_wp2_with fail
      go_ret
      exact ⟨_, rfl, by rw [show k = ns.length from by omega] at HO; exact HO.out, HB.out⟩
set_option maxRecDepth 100000 in
set_option maxHeartbeats 8000000 in
/-- spec.MeasuredWith -/
theorem sMea (a b : Option Addr) (cap cb : Nat) (ns : List Nd) (fl : Int) (ts : List Int) (w : World) (h : IsNd w a ns) (hb : IsInts w b ts) (hn : ns.length ≤ 1048576) (hm : ts.length ≤ 1048576) :
    Calls Try.prog 28 #[.slice a ns.length cap, .int .i64 fl, .slice b ts.length cb] w (OutI w (meaV ns fl ts)) := by
  have CM := svM a b cap cb ns ts w h hb hn hm
  cases hvm : vmB ns ts with
  | false =>
    rw [hvm] at CM
    rw [meaV_no (show vkB ns fl ts = false from by unfold vkB; rw [hvm]; rfl)]
    clear hvm h hb
    go_enter Try.func28, Try.ntmps28
    go_wp2_with fail
    refine CM.mono ?_
    rintro e w1 ⟨rfl, C⟩
    go_wp2_with fail
    go_ret
    exact outI_nil C
  | true =>
  rw [hvm] at CM
  by_cases hf : 0 ≤ fl ∧ fl ≤ 500
  rotate_left
  ·
    rw [meaV_no (show vkB ns fl ts = false from by cases e : vkB ns fl ts with | false => rfl | true => exact absurd (vk_is e).2 hf)]
    clear hvm h hb
    go_enter Try.func28, Try.ntmps28
    go_wp2_with fail
    refine CM.mono ?_
    rintro e w1 ⟨rfl, C⟩
    go_wp2_with fail
    refine (inRange_no fl 0 500 _ (by omega)).mono ?_
    rintro e w' ⟨rfl, rfl⟩
    go_wp2_with fail
    go_ret
    exact outI_nil C
  rw [meaV_yes (vk_yes hvm hf.1 hf.2)]
  obtain ⟨hv, htl, hta⟩ := vm_is hvm
  obtain ⟨l1, l12, _⟩ := vn_is hv
  have hmk := run_make_row' (P := Try.prog) 23 3 (.int .i64 0) 8 Try.underlying23 infoInt rfl .i64 .i64 ns.length (by omega) (by omega)
  have HKID := Lib.hid (fun (W : World) (hW : Below w.heap.size w W) (k : Nat) => skids a cap ns (k : Int) W (nd_below h hW) hv)
  have HSHR := Lib.hid (fun (W : World) (hW : Below w.heap.size w W) (k : Nat) (p : Int) (hp : 0 ≤ p ∧ p ≤ 500) => sshare a cap ns k p W (nd_below h hW) hv hp)
  have HV := Lib.hid hv
  rcases h with rfl | ⟨g0, o, rfl, hc⟩
  · simp at l1
  have HC := Lib.hid hc
  have i0 : (0 : Int) < (ns.length : Int) := by omega
  have n0 : 0 < ns.length := by omega
  have HTL := Lib.hid htl
  have HTB : Hid (∀ j, 0 ≤ ts.getD j 0 ∧ ts.getD j 0 ≤ 500) := allM_get hta
  rcases hb with rfl | ⟨gt, ot, rfl, htc⟩
  · simp at htl; omega
  have HTC := Lib.hid htc
  have HST0 : Hid (meaTo ns fl ts 0 = (List.replicate ns.length 0).set 0 fl) := rfl
  clear hc hvm hv htl htc hta
  go_enter Try.func28, Try.ntmps28
  go_wp2_with fail
  refine CM.mono ?_
  rintro e w1 ⟨rfl, C⟩
  clear CM
  go_wp2_with fail
  refine (inRange_yes fl 0 500 _ hf.1 hf.2).mono ?_
  rintro e w' ⟨rfl, rfl⟩
  have hM := OwnI.made C ns.length hn
  have hz := hM.cell (j := 0) (by rw [List.length_replicate]; omega)
  have hzf := hM.frozen 0
  have hO0 := hM.set_ 0 fl
  obtain ⟨g, hg⟩ : ∃ g, w1.heap.size = g := ⟨_, rfl⟩
  have hgw : w.heap.size ≤ g := by rw [← hg]; exact (C).size
  rw [hg] at hz hzf hO0
  rw [List.getD_eq_getElem?_getD, List.getElem?_replicate, if_pos (by omega)] at hz
  dsimp only [Option.getD_some] at hz
  have hB0 : Below w.heap.size w ((w1.alloc (.cells (madeCells #[.int .i64 0] ns.length) 3)).setCell ⟨g, 0, none⟩ (.int .i64 fl)) := ((C).alloc (C).size _).setCell (p := ⟨g, 0, none⟩) hgw _
  rw [World.setCell_alloc_at _ _ _ _ _ hg.symm] at hO0 hB0
  have HO0 := Lib.hid hO0
  have HB0 := Lib.hid hB0
  clear hM hO0 hB0
  clear C
  rw [← HST0.out] at HO0
  go_wp2_with fail
  clear hmk hz hzf
  clear hg
  go_loopw [8] (fun i wr => ∃ k : Nat, k ≤ ns.length ∧ i = .int .i64 k ∧ OwnI wr w.heap.size (.slice (some ⟨g, 0, none⟩) ns.length ns.length) (meaTo ns fl ts k) ∧ Below w.heap.size w wr) (fun i _ => ns.length - (intOf i).toNat)
  case atStart => exact ⟨0, Nat.zero_le _, rfl, HO0.out, HB0.out⟩
  case round =>
    clear HO0 HB0
    obtain ⟨k, hk, rfl, hO, hB⟩ := hrel
    by_cases hlt : k < ns.length
    · have CK := HKID.out wr hB k
      obtain ⟨q1, q2, q3, q4⟩ := vn_at HV.out hlt
      have hkl := kids_len ns (k : Int)
      have HKM : Hid (∀ z ∈ kidsF ns (k : Int), ∃ j : Nat, z = (j : Int) ∧ j < ns.length) := fun z hz => by obtain ⟨j, a, b, _⟩ := kids_bd hz; exact ⟨j, a, b⟩
      have HO := Lib.hid hO
      have HB := Lib.hid hB
      have hgb := hO.blk
      have k0 : (0 : Int) ≤ (k : Int) := by omega
      have k1 : (k : Int) < (ns.length : Int) := by omega
      clear hO hB
      go_wp2_with fail
      refine CK.mono ?_
      rintro e w3 ⟨v7, rfl, hK, hB3⟩
      obtain ⟨kb, kcp, rfl, _⟩ := hK.ints
      have B3 := Lib.hid (bel_tr HB.out hB3)
      have O3 := Lib.hid (HO.out.of_block hB3)
      have s3 := hB3.size
      have kc := O3.out.cell (j := k) (by rw [meaTo_len]; exact hlt)
      have hcb := mea_bd HV.out hf (fun j => (HTB.out j).1) k hk k
      obtain ⟨c0, c1, c2, c3, c4⟩ := nd_at HC.out B3.out hlt
      have HK := Lib.hid hK
      have HST := Lib.hid (mea_put (fl := fl) (ts := ts) HV.out (fun j => (HTB.out j).1) hlt)
      have hgl := giveS_len ns (k : Int) (passV (ns.getD k nd0) ((meaTo ns fl ts k).getD k 0))
      have hpb := pass_bd (x := ns.getD k nd0) q3.1 hcb.1 q2.1
      have HGB := Lib.hid (fun i => giveS_bd (ns := ns) HV.out hlt hcb (i := i))
      have HSH := Lib.hid (fun (W : World) (hW : Below w.heap.size w W) => HSHR.out W hW k (passV (ns.getD k nd0) ((meaTo ns fl ts k).getD k 0)) (by omega))
      generalize ((meaTo ns fl ts k).getD k 0) = c at hcb kc HST hgl HSH hpb HGB
      have CP := fun W => spassing (ns.getD k nd0).1 (ns.getD k nd0).2.1 (ns.getD k nd0).2.2.1 (ns.getD k nd0).2.2.2.1 (ns.getD k nd0).2.2.2.2 c W hcb q2 q3
      change ∀ W, Calls _ _ _ W (fun e w' => e = .returned (.int .i64 (passV (ns.getD k nd0) c)) ∧ Below W.heap.size W w') at CP
      generalize ns.getD k nd0 = nd at c0 c1 c2 c3 c4 CP HST hgl q2 q3 HSH hpb HGB
      obtain ⟨x0, x1, x2, x3, x4⟩ := nd
      dsimp only at c0 c1 c2 c3 c4 CP
      generalize passV (x0, x1, x2, x3, x4) c = p at CP HST hgl HSH hpb HGB
      clear CK hK hB3 HO HB q1 q2 q3 q4 hcb hpb
      go_wp2_with fail
      refine wp_region_held_drew (S := (fun W' => (W'.cell? ⟨g0, o + k * 5, none⟩ = some (.int .i64 x0) ∧ W'.cell? ⟨g0, o + k * 5 + 1, none⟩ = some (.int .i64 x1) ∧ W'.cell? ⟨g0, o + k * 5 + 2, none⟩ = some (.int .i64 x2) ∧ W'.cell? ⟨g0, o + k * 5 + 3, none⟩ = some (.int .i64 x3) ∧ W'.cell? ⟨g0, o + k * 5 + 4, none⟩ = some (.int .i64 x4) ∧ W'.cell? ⟨g, k, none⟩ = some (.int .i64 c)) ∧ Below w3.heap.size w3 W')) (by kernel_rfl) ?_ (fun hHeld => ?_)
      · exact ⟨⟨c0, c1, c2, c3, c4, kc⟩, (Below.refl _ _).drew⟩
      refine wpAnyH_take (i := 0) (oi := ?oob0) (v := ?vvb0) ?hib0 (by kernel_rfl) ?h3b0 ?h4b0 ?h5b0 ?h6b0 (by assumption) ?h8b0
      case hib0 => (simp only [List.getElem?_toArray, List.getElem?_cons_succ, List.getElem?_cons_zero]; rfl)
      case h3b0 => kernel_rfl
      case h4b0 => kernel_rfl
      case h6b0 => (refine Or.inl ⟨by rfl, ?_⟩; intro w hSw; (try dsimp only at hSw); (go_simp <;> with_reducible rfl))
      case h5b0 => exact fun _ _ _ h => h
      try simp only [Act.put, List.setIfInBounds_toArray, List.set_cons_zero, List.set_cons_succ]
      refine wpAnyH_take (i := 1) (oi := ?oob1) (v := ?vvb1) ?hib1 (by kernel_rfl) ?h3b1 ?h4b1 ?h5b1 ?h6b1 (by assumption) ?h8b1
      case hib1 => (simp only [List.getElem?_toArray, List.getElem?_cons_succ, List.getElem?_cons_zero]; rfl)
      case h3b1 => kernel_rfl
      case h4b1 => kernel_rfl
      case h6b1 => (refine Or.inl ⟨by rfl, ?_⟩; intro w hSw; (try dsimp only at hSw); (go_simp <;> with_reducible rfl))
      case h5b1 => exact fun _ _ _ h => h
      try simp only [Act.put, List.setIfInBounds_toArray, List.set_cons_zero, List.set_cons_succ]
      refine wpAnyH_take (i := 2) (oi := ?oob2) (v := ?vvb2) ?hib2 (by kernel_rfl) ?h3b2 ?h4b2 ?h5b2 ?h6b2 (by assumption) ?h8b2
      case hib2 => (simp only [List.getElem?_toArray, List.getElem?_cons_succ, List.getElem?_cons_zero]; rfl)
      case h3b2 => kernel_rfl
      case h4b2 => kernel_rfl
      case h6b2 => (refine Or.inl ⟨by rfl, ?_⟩; intro w hSw; (try dsimp only at hSw); (go_simp <;> with_reducible rfl))
      case h5b2 => exact fun _ _ _ h => h
      try simp only [Act.put, List.setIfInBounds_toArray, List.set_cons_zero, List.set_cons_succ]
      refine wpAnyH_take (i := 3) (oi := ?oob3) (v := ?vvb3) ?hib3 (by kernel_rfl) ?h3b3 ?h4b3 ?h5b3 ?h6b3 (by assumption) ?h8b3
      case hib3 => (simp only [List.getElem?_toArray, List.getElem?_cons_succ, List.getElem?_cons_zero]; rfl)
      case h3b3 => kernel_rfl
      case h4b3 => kernel_rfl
      case h6b3 => (refine Or.inl ⟨by rfl, ?_⟩; intro w hSw; (try dsimp only at hSw); (go_simp <;> with_reducible rfl))
      case h5b3 => exact fun _ _ _ h => h
      try simp only [Act.put, List.setIfInBounds_toArray, List.set_cons_zero, List.set_cons_succ]
      refine wpAnyH_take (i := 4) (oi := ?oob4) (v := ?vvb4) ?hib4 (by kernel_rfl) ?h3b4 ?h4b4 ?h5b4 ?h6b4 (by assumption) ?h8b4
      case hib4 => (simp only [List.getElem?_toArray, List.getElem?_cons_succ, List.getElem?_cons_zero]; rfl)
      case h3b4 => kernel_rfl
      case h4b4 => kernel_rfl
      case h6b4 => (refine Or.inl ⟨by rfl, ?_⟩; intro w hSw; (try dsimp only at hSw); (go_simp <;> with_reducible rfl))
      case h5b4 => exact fun _ _ _ h => h
      try simp only [Act.put, List.setIfInBounds_toArray, List.set_cons_zero, List.set_cons_succ]
      refine wpAnyH_take (i := 5) (oi := ?oob5) (v := ?vvb5) ?hib5 (by kernel_rfl) ?h3b5 ?h4b5 ?h5b5 ?h6b5 (by assumption) ?h8b5
      case hib5 => (simp only [List.getElem?_toArray, List.getElem?_cons_succ, List.getElem?_cons_zero]; rfl)
      case h3b5 => kernel_rfl
      case h4b5 => kernel_rfl
      case h6b5 => (refine Or.inl ⟨by rfl, ?_⟩; intro w hSw; (try dsimp only at hSw); (go_simp <;> with_reducible rfl))
      case h5b5 => exact fun _ _ _ h => h
      try simp only [Act.put, List.setIfInBounds_toArray, List.set_cons_zero, List.set_cons_succ]
      refine wpAnyH_take (i := 6) (oi := ?oob6) (v := ?vvb6) ?hib6 (by kernel_rfl) ?h3b6 ?h4b6 ?h5b6 ?h6b6 (by assumption) ?h8b6
      case hib6 => (simp only [List.getElem?_toArray, List.getElem?_cons_succ, List.getElem?_cons_zero]; rfl)
      case h3b6 => kernel_rfl
      case h4b6 => kernel_rfl
      case h6b6 => (refine Or.inl ⟨by rfl, ?_⟩; intro w hSw; (try dsimp only at hSw); (go_simp <;> with_reducible rfl))
      case h5b6 => exact fun _ _ _ h => h
      try simp only [Act.put, List.setIfInBounds_toArray, List.set_cons_zero, List.set_cons_succ]
      refine wpAnyH_take (i := 7) (oi := ?oob7) (v := ?vvb7) ?hib7 (by kernel_rfl) ?h3b7 ?h4b7 ?h5b7 ?h6b7 (by assumption) ?h8b7
      case hib7 => (simp only [List.getElem?_toArray, List.getElem?_cons_succ, List.getElem?_cons_zero]; rfl)
      case h3b7 => kernel_rfl
      case h4b7 => kernel_rfl
      case h6b7 => (refine Or.inl ⟨by rfl, ?_⟩; intro w hSw; (try dsimp only at hSw); (go_simp <;> with_reducible rfl))
      case h5b7 => exact fun _ _ _ h => h
      try simp only [Act.put, List.setIfInBounds_toArray, List.set_cons_zero, List.set_cons_succ]
      refine wpAnyH_take (i := 8) (oi := ?oob8) (v := ?vvb8) ?hib8 (by kernel_rfl) ?h3b8 ?h4b8 ?h5b8 ?h6b8 (by assumption) ?h8b8
      case hib8 => (simp only [List.getElem?_toArray, List.getElem?_cons_succ, List.getElem?_cons_zero]; rfl)
      case h3b8 => kernel_rfl
      case h4b8 => kernel_rfl
      case h6b8 => (refine Or.inl ⟨by rfl, ?_⟩; intro w hSw; (try dsimp only at hSw); (go_simp <;> with_reducible rfl))
      case h5b8 => exact fun _ _ _ h => h
      try simp only [Act.put, List.setIfInBounds_toArray, List.set_cons_zero, List.set_cons_succ]
      refine wpAnyH_take (i := 9) (oi := ?oob9) (v := ?vvb9) ?hib9 (by kernel_rfl) ?h3b9 ?h4b9 ?h5b9 ?h6b9 (by assumption) ?h8b9
      case hib9 => (simp only [List.getElem?_toArray, List.getElem?_cons_succ, List.getElem?_cons_zero]; rfl)
      case h3b9 => kernel_rfl
      case h4b9 => kernel_rfl
      case h6b9 => (refine Or.inl ⟨by rfl, ?_⟩; intro w hSw; (try dsimp only at hSw); (go_simp <;> with_reducible rfl))
      case h5b9 => exact fun _ _ _ h => h
      try simp only [Act.put, List.setIfInBounds_toArray, List.set_cons_zero, List.set_cons_succ]
      refine wpAnyH_ready (rs := [10]) (by kernel_rfl) (by simp) (AllReadyH.cons (o := ?oob10) ?hib10 (fun K hK => ?hkb10) AllReadyH.nil)
      rotate_left
      case hib10 => (simp only [List.getElem?_toArray, List.getElem?_cons_succ, List.getElem?_cons_zero]; rfl)
      (rw [if_pos (by rfl)]; go_simp; refine (CP _).mono ?_; rintro e wq ⟨rfl, hb⟩; go_wp2_with fail; refine hK.out _ _ (kp6 hb hHeld) (fun hHeld => ?_); clear hK K)
      try simp only [Act.put, List.setIfInBounds_toArray, List.set_cons_zero, List.set_cons_succ]
      refine wpAnyH_ready (rs := [11]) (by kernel_rfl) (by simp) (AllReadyH.cons (o := ?oob11) ?hib11 (fun K hK => ?hkb11) AllReadyH.nil)
      rotate_left
      case hib11 => (simp only [List.getElem?_toArray, List.getElem?_cons_succ, List.getElem?_cons_zero]; rfl)
      (rw [if_pos (by rfl)]; go_simp; refine (HSH.out _ (bel_tr B3.out hHeld.2)).mono ?_; rintro e wp ⟨v8, rfl, hG, hb2⟩; obtain ⟨gb, gcp, rfl, _⟩ := hG.ints; go_wp2_with fail; refine hK.out _ _ (kp6 hb2 hHeld) (fun hHeld => ?_); clear hK K)
      try simp only [Act.put, List.setIfInBounds_toArray, List.set_cons_zero, List.set_cons_succ]
      refine wpAnyH_take (i := 12) (oi := ?oob12) (v := ?vvb12) ?hib12 (by kernel_rfl) ?h3b12 ?h4b12 ?h5b12 ?h6b12 (by assumption) ?h8b12
      case hib12 => (simp only [List.getElem?_toArray, List.getElem?_cons_succ, List.getElem?_cons_zero]; rfl)
      case h3b12 => kernel_rfl
      case h4b12 => kernel_rfl
      case h6b12 => (refine Or.inl ⟨by rfl, ?_⟩; intro w hSw; (try dsimp only at hSw); (go_simp <;> with_reducible rfl))
      case h5b12 => exact fun _ _ _ h => h
      try simp only [Act.put, List.setIfInBounds_toArray, List.set_cons_zero, List.set_cons_succ]
      refine wpAnyH_done (by kernel_rfl) ?_ _
      have hW2 : Below w3.heap.size w3 wp := hHeld.2
      have B5 := bel_tr B3.out hW2
      have O5 := O3.out.of_block hW2
      have K5 := HK.out.of_block hW2
      have hcl := meaTo_len ns fl ts k
      have s5 : w3.heap.size ≤ wq.heap.size := hb.size
      have s6 := hb2.size
      have s7 := hHeld.2.size
      clear hHeld hb hb2 hW2 CP HSH c0 c1 c2 c3 c4 kc B3 O3 HK
      generalize kidsF ns (k : Int) = ks at K5 HKM hkl hgl HST
      generalize giveS ns (k : Int) p = gv at hG hgl HST HGB
      generalize meaTo ns fl ts k = cs at O5 hcl HST
      have HO5 := Lib.hid O5
      have HK5 := Lib.hid K5
      have HG5 := Lib.hid hG
      have HB5 := Lib.hid B5
      clear O5 K5 hG B5
      go_wp2_with fail
      go_loopw [11] (fun i wr => ∃ m : Nat, m ≤ gv.length ∧ i = .int .i64 m ∧ Hid (OwnI wr w.heap.size (.slice (some ⟨g, 0, none⟩) ns.length ns.length) (putTo cs ks (lesV gv ks ts) m) ∧ wp.grownBy wr (some g))) (fun i _ => gv.length - (intOf i).toNat)
      case atStart => exact ⟨0, Nat.zero_le _, rfl, HO5.out, g_of (Below.refl _ _) _⟩
      case round =>
        obtain ⟨m, hm, rfl, HM⟩ := hrel
        by_cases hlm : m < gv.length
        · have hka := HK5.out.apart HM.out.2 (fun q hq => by have e := Option.some.inj hq; omega)
          have hga2 := HG5.out.apart HM.out.2 (fun q hq => by have e := Option.some.inj hq; omega)
          obtain ⟨gk, rfl, nk'⟩ := hka.form_ (by omega)
          obtain ⟨gg, rfl, ng'⟩ := hga2.form_ (by omega)
          have nk : g ≠ gk := by omega
          have ng : g ≠ gg := by omega
          have c1 := hka.cell (j := m) (by omega)
          have c2 := hga2.cell hlm
          obtain ⟨j, hj, hjl⟩ := HKM.out _ (getD_mem (zs := ks) (k := m) (by omega))
          have hpl := putTo_len cs ks (lesV gv ks ts) m
          have c3 := HM.out.1.cell (j := j) (by omega)
          have c4 := HM.out.1.frozen j
          have hst := HM.out.1.set_ j ((lesV gv ks ts).getD m 0)
          have hps := putTo_succ cs ks (lesV gv ks ts) m
          rw [hj, show ((j : Int)).toNat = j from by omega] at hps
          rw [← hps] at hst
          rw [hj] at c1
          have HS : Hid (∀ n : Nat, OwnI ((wr.drewN n).setCell ⟨g, j, none⟩ (.int .i64 ((lesV gv ks ts).getD m 0))) w.heap.size (.slice (some ⟨g, 0, none⟩) ns.length ns.length) (putTo cs ks (lesV gv ks ts) (m + 1)) ∧ wp.grownBy ((wr.drewN n).setCell ⟨g, j, none⟩ (.int .i64 ((lesV gv ks ts).getD m 0))) (some g)) := fun n => ⟨hst, g_set2 (g_drewN HM.out.2 n)⟩
          have b0 : (0 : Int) ≤ (j : Int) := by omega
          have b1 : (j : Int) < (ns.length : Int) := by omega
          have b2 : (m : Int) < (gv.length : Int) := by omega
          have b3 : (m : Int) < (ks.length : Int) := by omega
          have b4 : (0 : Int) ≤ (m : Int) := by omega
          have bg := HGB.out m hlm
          have hjt : j < ts.length := by have := HTL.out; omega
          have c50 := HTC.out j hjt
          have c5 := ((below_gv HB5.out HM.out.2 (fun q hq => by have e := Option.some.inj hq; omega)).cell (World.block_lt_of_cell? w _ c50)).trans c50
          have bt := HTB.out j
          have b5 : (j : Int) < (ts.length : Int) := by omega
          rw [show (lesV gv ks ts).getD m 0 = gv.getD m 0 - min (gv.getD m 0) (ts.getD j 0) from by rw [lesV_get hlm, hj, show ((j : Int)).toNat = j from by omega]] at HS
          generalize ts.getD j 0 = t at c5 HS bt
          clear c50
          generalize gv.getD m 0 = y at c2 HS bg
          generalize (putTo cs ks (lesV gv ks ts) m).getD j 0 = y3 at c3
          clear hst hps hj hpl hka hga2 HM
          by_cases hyt : y ≤ t
          · rw [show min y t = y from by omega, Int.sub_self] at HS
            have wz : IntKind.i64.wrap (y - y) = 0 := by rw [Int.sub_self]; rfl
            go_wp2_with fail
            refine wp_region_still_tail 23 (by kernel_rfl) (by kernel_rfl) ?_
            simp only [List.take_succ_cons, List.take_zero, List.drop_succ_cons, List.drop_zero]
            iterate 23 still_step
            refine wpStill_nil ?_
            change wpList _ _ _ _ _ wr.drew
            go_wp2_with fail
            go_roundw
            case rel => exact ⟨m + 1, by omega, by go_num, HS.out 1⟩
            case measure => simp [intOf]; omega
          · rw [show min y t = t from by omega] at HS
            have wz : IntKind.i64.wrap (y - t) = y - t := by rw [IntKind.wrap_i64]; omega
            go_wp2_with fail
            refine wp_region_still_tail 23 (by kernel_rfl) (by kernel_rfl) ?_
            simp only [List.take_succ_cons, List.take_zero, List.drop_succ_cons, List.drop_zero]
            iterate 23 still_step
            refine wpStill_nil ?_
            change wpList _ _ _ _ _ wr.drew
            go_wp2_with fail
            go_roundw
            case rel => exact ⟨m + 1, by omega, by go_num, HS.out 1⟩
            case measure => simp [intOf]; omega
        · have HE : Hid (OwnI wr w.heap.size (.slice (some ⟨g, 0, none⟩) ns.length ns.length) (meaTo ns fl ts (k + 1)) ∧ Below w.heap.size w wr) := by
            refine ⟨?_, below_gv HB5.out HM.out.2 (fun q hq => by have e := Option.some.inj hq; omega)⟩
            rw [← HST.out]
            have := HM.out.1
            rw [show m = ks.length from by omega] at this
            exact this
          have hmk2 : (m : Int) = (ks.length : Int) := by omega
          clear HM
          go_wp2_with fail
          go_roundw
          case rel => exact ⟨k + 1, by omega, by go_num, HE.out⟩
          case measure => simp [intOf]; omega
    · have HO := Lib.hid hO
      have HB := Lib.hid hB
      clear hO hB
      go_wp2_with fail
      go_ret
      exact ⟨_, rfl, by rw [show k = ns.length from by omega] at HO; exact HO.out, HB.out⟩
end Go.Proofs.Ytigapnbpgbfbhaa
