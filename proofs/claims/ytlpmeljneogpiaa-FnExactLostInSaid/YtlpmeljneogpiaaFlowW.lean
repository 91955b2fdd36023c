/- What is lost, by the model. Condition: at most 1048576 nodes. -/
import Derived.Test.YtlpmeljneogpiaaFlowT
import Derived.Deep.RegionHeld3
namespace Go.Proofs.Ytlpmeljneogpiaa
open Go.RowKit
set_option linter.unusedSimpArgs false
set_option linter.unusedVariables false
theorem got_bd {ns : List Nd} (hv : vnB ns = true) {fl : Int} (hf : 0 ≤ fl ∧ fl ≤ 500) (k : Int) : ∀ m, m ≤ (kidsF ns k).length → 0 ≤ ((gotL ns fl k).take m).sum ∧ ((gotL ns fl k).take m).sum ≤ 500 * (m : Int) := by
  intro m
  induction m with
  | zero => intro _; exact ⟨Int.le_refl _, by show (0 : Int) ≤ 500 * ((0 : Nat) : Int); omega⟩
  | succ m ih =>
    intro hm
    have a := ih (by omega)
    rw [take_sum _ m (by rw [gotL_len]; omega), gotL_get ns fl k (by omega)]
    have b := come_bd hv hf ((kidsF ns k).getD m 0).toNat
    omega
set_option maxRecDepth 100000 in
set_option maxHeartbeats 8000000 in
/-- spec.LostIn -/
theorem sLost (a : Option Addr) (cap : Nat) (ns : List Nd) (fl : Int) (w : World) (h : IsNd w a ns) (hn : ns.length ≤ 1048576) :
    Calls Try.prog 23 #[.slice a ns.length cap, .int .i64 fl] w fun e w' => e = .returned (.int .i64 (lostV ns fl)) ∧ Below w.heap.size w w' := by
  have VN := svn a cap ns _ h hn
  have CW := fun W => sinRange fl 0 500 W
  cases hv : vnB ns with
  | false =>
    rw [lost_no (flB_no (.inl hv))]
    rw [hv] at VN
    clear hv h
    go_enter Try.func23, Try.ntmps23
    go_wp2_with fail
    refine VN.mono ?_
    rintro e w1 ⟨rfl, C⟩
    go_wp2_with fail
    go_ret
    exact ⟨rfl, C⟩
  | true =>
  rw [hv] at VN
  cases hw : (decide (0 ≤ fl) && decide (fl ≤ 500)) with
  | false =>
    rw [lost_no (flB_no (.inr hw))]
    rw [hw] at CW
    clear hv hw h
    go_enter Try.func23, Try.ntmps23
    go_wp2_with fail
    refine VN.mono ?_
    rintro e w1 ⟨rfl, C⟩
    go_wp2_with fail
    refine (CW _).mono ?_
    rintro e w' ⟨rfl, rfl⟩
    go_wp2_with fail
    go_ret
    exact ⟨rfl, C⟩
  | true =>
  have hb : flB ns fl = true := by unfold flB; rw [hv, hw]; rfl
  rw [hw] at CW
  have hf := (flB_is hb).2
  rw [lost_yes hb]
  obtain ⟨l1, l12, _⟩ := vn_is hv
  have HF := Lib.hid (fun (W : World) (hW : Below w.heap.size w W) => sflows a cap ns fl W (nd_below h hW) hv hf)
  have HKID := Lib.hid (fun (W : World) (hW : Below w.heap.size w W) (k : Nat) => skids a cap ns (k : Int) W (nd_below h hW) hv)
  have HV := Lib.hid hv
  rcases h with rfl | ⟨g0, o, rfl, hc⟩
  · simp at l1
  have HC := Lib.hid hc
  clear hb hw hc hv
  go_enter Try.func23, Try.ntmps23
  go_wp2_with fail
  refine VN.mono ?_
  rintro e w1 ⟨rfl, C⟩
  go_wp2_with fail
  refine (CW _).mono ?_
  rintro e w' ⟨rfl, rfl⟩
  clear VN CW
  go_wp2_with fail
  refine (HF.out w1 C).mono ?_
  rintro e w2 ⟨v5, rfl, hO, hB⟩
  have hcl : (comeF ns fl).length = ns.length := comeTo_len ns fl _
  obtain ⟨cb, cc, rfl, _⟩ := hO.ints
  obtain ⟨gc, rfl, hgc⟩ := hO.form_ (by omega)
  rw [hcl] at hO ⊢
  have HO2 : Hid (OwnI w2 w1.heap.size (.slice (some ⟨gc, 0, none⟩) ns.length cc) (comeF ns fl)) := hO
  have HB2 := Lib.hid (bel_tr C hB)
  clear hO hB C HF
  go_wp2_with fail
  obtain ⟨V, hV⟩ : ∃ V, V = w2 := ⟨_, rfl⟩
  subst hV
  go_loopw [6, 7] (fun s i wr => ∃ k : Nat, k ≤ ns.length ∧ i = .int .i64 k ∧ s = .int .i64 (lostTo ns fl k) ∧ Below V.heap.size V wr) (fun _ i _ => ns.length - (intOf i).toNat)
  case atStart => exact ⟨0, Nat.zero_le _, rfl, rfl, Below.refl _ _⟩
  case round =>
    obtain ⟨k, hk, rfl, rfl, hB⟩ := hrel
    obtain ⟨s0, s1⟩ := lost_bd HV.out hf k hk
    have s2 : lostTo ns fl k ≤ 6000 := by omega
    by_cases hlt : k < ns.length
    · have CK := HKID.out wr (bel_tr HB2.out hB) k
      have hls := lostTo_succ ns fl k
      rw [loss_got HV.out hf hlt] at hls
      have hkl := kids_len ns (k : Int)
      have HKM : Hid (∀ z ∈ kidsF ns (k : Int), ∃ j : Nat, z = (j : Int) ∧ j < ns.length) := fun z hz => by obtain ⟨j, a, b, _⟩ := kids_bd hz; exact ⟨j, a, b⟩
      have HGB := Lib.hid (got_bd HV.out hf (k : Int))
      have HGG := Lib.hid (fun m (hm : m < (kidsF ns (k : Int)).length) => gotL_get ns fl (k : Int) hm)
      have hgl := gotL_len ns fl (k : Int)
      have HLS := Lib.hid hls
      have HB := Lib.hid hB
      clear hls hB s1
      generalize lostTo ns fl k = s at HLS s0 s2
      go_wp2_with fail
      refine CK.mono ?_
      rintro e w5 ⟨v8, rfl, hK, hB3⟩
      obtain ⟨kb, kcp, rfl, _⟩ := hK.ints
      have B5 := Lib.hid (bel_tr HB.out hB3)
      have O5 := Lib.hid (HO2.out.of_block B5.out)
      have HK := Lib.hid hK
      clear CK hK hB3 HB
      generalize kidsF ns (k : Int) = ks at HKM HGB HGG hgl hkl HLS HK
      generalize gotL ns fl (k : Int) = gl at HGB HGG hgl HLS
      go_wp2_with fail
      go_loop [9, 10] (fun g i => ∃ m : Nat, m ≤ ks.length ∧ i = .int .i64 m ∧ g = .int .i64 (gl.take m).sum) (fun _ i => ks.length - (intOf i).toNat)
      case atStart => exact ⟨0, Nat.zero_le _, rfl, rfl⟩
      case round =>
        obtain ⟨m, hm, rfl, rfl⟩ := hrel
        obtain ⟨t0, t1⟩ := HGB.out m hm
        by_cases hlm : m < ks.length
        · obtain ⟨gk, rfl, _⟩ := HK.out.form_ (by omega)
          have c1 := HK.out.cell hlm
          obtain ⟨j, hj, hjl⟩ := HKM.out _ (getD_mem hlm)
          have c2 := O5.out.cell (j := j) (by omega)
          have hcb := come_bd HV.out hf j
          have ht := take_sum gl m (by omega)
          rw [HGG.out m hlm, hj, show ((j : Int)).toNat = j from by omega] at ht
          rw [hj] at c1
          generalize (comeF ns fl).getD j 0 = y at c2 hcb ht
          generalize (gl.take m).sum = t at t0 t1 ht
          have HT := Lib.hid ht
          have b0 : (0 : Int) ≤ (j : Int) := by omega
          have b1 : (j : Int) < (ns.length : Int) := by omega
          have t2 : t ≤ 6000 := by omega
          clear ht hj
          go_wp2_with fail
          go_round
          case rel => exact ⟨m + 1, by omega, by go_num, by rw [HT.out]⟩
          case measure => simp [intOf]; omega
        · have hm2 : m = ks.length := by omega
          subst hm2
          rw [List.take_of_length_le (by omega)] at t0 t1 ⊢
          obtain ⟨c0, c1, c2, c3, c4⟩ := nd_at HC.out (bel_tr HB2.out B5.out) hlt
          have kc := O5.out.cell (j := k) (by omega)
          have hcb := come_bd HV.out hf k
          have hpb := passF_bd HV.out hf hlt
          obtain ⟨q1, q2, q3, q4⟩ := vn_at HV.out hlt
          have hpg := passF_get ns fl hlt
          have k0 : (0 : Int) ≤ (k : Int) := by omega
          have k1 : (k : Int) < (ns.length : Int) := by omega
          have t2 : gl.sum ≤ 6000 := by omega
          by_cases hz : ks.length = 0
          · have hls := HLS.out
            rw [if_pos hz] at hls
            have CP := fun W => spassing (ns.getD k nd0).1 (ns.getD k nd0).2.1 (ns.getD k nd0).2.2.1 (ns.getD k nd0).2.2.2.1 (ns.getD k nd0).2.2.2.2 ((comeF ns fl).getD k 0) W hcb q2 q3
            change ∀ W, Calls _ _ _ W (fun e w' => e = .returned (.int .i64 (passV (ns.getD k nd0) ((comeF ns fl).getD k 0))) ∧ Below W.heap.size W w') at CP
            rw [← hpg] at CP
            have kcW : ∀ W, Below w5.heap.size w5 W → W.cell? ⟨gc, k, none⟩ = some (.int .i64 ((comeF ns fl).getD k 0)) := fun W hW => (hW.cell (World.block_lt_of_cell? w5 _ kc)).trans kc
            have HKW := Lib.hid kcW
            generalize (comeF ns fl).getD k 0 = c at kc CP hcb hpb hls HKW
            generalize ns.getD k nd0 = nd at c0 c1 c2 c3 c4 CP hpb
            obtain ⟨x0, x1, x2, x3, x4⟩ := nd
            dsimp only at c0 c1 c2 c3 c4 CP
            generalize (passF ns fl).getD k 0 = p at CP hpb hls
            obtain ⟨n, hnn⟩ : ∃ n, ks.length = n := ⟨_, rfl⟩
            rw [hnn] at hz ⊢
            subst hz
            have HLS2 := Lib.hid hls
            have p0 := hpb.1
            have p1 := hpb.2.1
            clear hls hnn hpb q1 q2 q3 q4 hpg kcW HLS
            generalize gl.sum = gs at t0 t1 t2
            go_wp2_with fail
            refine wp_region_held_drew (S := (fun W' => (W'.cell? ⟨g0, o + k * 5, none⟩ = some (.int .i64 x0) ∧ W'.cell? ⟨g0, o + k * 5 + 1, none⟩ = some (.int .i64 x1) ∧ W'.cell? ⟨g0, o + k * 5 + 2, none⟩ = some (.int .i64 x2) ∧ W'.cell? ⟨g0, o + k * 5 + 3, none⟩ = some (.int .i64 x3) ∧ W'.cell? ⟨g0, o + k * 5 + 4, none⟩ = some (.int .i64 x4) ∧ W'.cell? ⟨gc, k, none⟩ = some (.int .i64 c)) ∧ Below w5.heap.size w5 W')) (by kernel_rfl) ?_ (fun hHeld => ?_)
            · exact ⟨⟨c0, c1, c2, c3, c4, kc⟩, (Below.refl _ _).drew⟩
            refine wpAnyH_take (i := 0) (oi := ?ooa0) (v := ?vva0) ?hia0 (by kernel_rfl) ?h3a0 ?h4a0 ?h5a0 ?h6a0 (by assumption) ?h8a0
            case hia0 => (simp only [List.getElem?_toArray, List.getElem?_cons_succ, List.getElem?_cons_zero]; rfl)
            case h3a0 => kernel_rfl
            case h4a0 => kernel_rfl
            case h6a0 => (refine Or.inl ⟨by rfl, ?_⟩; intro w hSw; (try dsimp only at hSw); (go_simp <;> with_reducible rfl))
            case h5a0 => exact fun _ _ _ h => h
            try simp only [Act.put, List.setIfInBounds_toArray, List.set_cons_zero, List.set_cons_succ]
            refine wpAnyH_take (i := 1) (oi := ?ooa1) (v := ?vva1) ?hia1 (by kernel_rfl) ?h3a1 ?h4a1 ?h5a1 ?h6a1 (by assumption) ?h8a1
            case hia1 => (simp only [List.getElem?_toArray, List.getElem?_cons_succ, List.getElem?_cons_zero]; rfl)
            case h3a1 => kernel_rfl
            case h4a1 => kernel_rfl
            case h6a1 => (refine Or.inl ⟨by rfl, ?_⟩; intro w hSw; (try dsimp only at hSw); (go_simp <;> with_reducible rfl))
            case h5a1 => exact fun _ _ _ h => h
            try simp only [Act.put, List.setIfInBounds_toArray, List.set_cons_zero, List.set_cons_succ]
            refine wpAnyH_take (i := 2) (oi := ?ooa2) (v := ?vva2) ?hia2 (by kernel_rfl) ?h3a2 ?h4a2 ?h5a2 ?h6a2 (by assumption) ?h8a2
            case hia2 => (simp only [List.getElem?_toArray, List.getElem?_cons_succ, List.getElem?_cons_zero]; rfl)
            case h3a2 => kernel_rfl
            case h4a2 => kernel_rfl
            case h6a2 => (refine Or.inl ⟨by rfl, ?_⟩; intro w hSw; (try dsimp only at hSw); (go_simp <;> with_reducible rfl))
            case h5a2 => exact fun _ _ _ h => h
            try simp only [Act.put, List.setIfInBounds_toArray, List.set_cons_zero, List.set_cons_succ]
            refine wpAnyH_take (i := 3) (oi := ?ooa3) (v := ?vva3) ?hia3 (by kernel_rfl) ?h3a3 ?h4a3 ?h5a3 ?h6a3 (by assumption) ?h8a3
            case hia3 => (simp only [List.getElem?_toArray, List.getElem?_cons_succ, List.getElem?_cons_zero]; rfl)
            case h3a3 => kernel_rfl
            case h4a3 => kernel_rfl
            case h6a3 => (refine Or.inl ⟨by rfl, ?_⟩; intro w hSw; (try dsimp only at hSw); (go_simp <;> with_reducible rfl))
            case h5a3 => exact fun _ _ _ h => h
            try simp only [Act.put, List.setIfInBounds_toArray, List.set_cons_zero, List.set_cons_succ]
            refine wpAnyH_take (i := 4) (oi := ?ooa4) (v := ?vva4) ?hia4 (by kernel_rfl) ?h3a4 ?h4a4 ?h5a4 ?h6a4 (by assumption) ?h8a4
            case hia4 => (simp only [List.getElem?_toArray, List.getElem?_cons_succ, List.getElem?_cons_zero]; rfl)
            case h3a4 => kernel_rfl
            case h4a4 => kernel_rfl
            case h6a4 => (refine Or.inl ⟨by rfl, ?_⟩; intro w hSw; (try dsimp only at hSw); (go_simp <;> with_reducible rfl))
            case h5a4 => exact fun _ _ _ h => h
            try simp only [Act.put, List.setIfInBounds_toArray, List.set_cons_zero, List.set_cons_succ]
            refine wpAnyH_take (i := 5) (oi := ?ooa5) (v := ?vva5) ?hia5 (by kernel_rfl) ?h3a5 ?h4a5 ?h5a5 ?h6a5 (by assumption) ?h8a5
            case hia5 => (simp only [List.getElem?_toArray, List.getElem?_cons_succ, List.getElem?_cons_zero]; rfl)
            case h3a5 => kernel_rfl
            case h4a5 => kernel_rfl
            case h6a5 => (refine Or.inl ⟨by rfl, ?_⟩; intro w hSw; (try dsimp only at hSw); (go_simp <;> with_reducible rfl))
            case h5a5 => exact fun _ _ _ h => h
            try simp only [Act.put, List.setIfInBounds_toArray, List.set_cons_zero, List.set_cons_succ]
            refine wpAnyH_take (i := 6) (oi := ?ooa6) (v := ?vva6) ?hia6 (by kernel_rfl) ?h3a6 ?h4a6 ?h5a6 ?h6a6 (by assumption) ?h8a6
            case hia6 => (simp only [List.getElem?_toArray, List.getElem?_cons_succ, List.getElem?_cons_zero]; rfl)
            case h3a6 => kernel_rfl
            case h4a6 => kernel_rfl
            case h6a6 => (refine Or.inl ⟨by rfl, ?_⟩; intro w hSw; (try dsimp only at hSw); (go_simp <;> with_reducible rfl))
            case h5a6 => exact fun _ _ _ h => h
            try simp only [Act.put, List.setIfInBounds_toArray, List.set_cons_zero, List.set_cons_succ]
            refine wpAnyH_take (i := 7) (oi := ?ooa7) (v := ?vva7) ?hia7 (by kernel_rfl) ?h3a7 ?h4a7 ?h5a7 ?h6a7 (by assumption) ?h8a7
            case hia7 => (simp only [List.getElem?_toArray, List.getElem?_cons_succ, List.getElem?_cons_zero]; rfl)
            case h3a7 => kernel_rfl
            case h4a7 => kernel_rfl
            case h6a7 => (refine Or.inl ⟨by rfl, ?_⟩; intro w hSw; (try dsimp only at hSw); (go_simp <;> with_reducible rfl))
            case h5a7 => exact fun _ _ _ h => h
            try simp only [Act.put, List.setIfInBounds_toArray, List.set_cons_zero, List.set_cons_succ]
            refine wpAnyH_ready (rs := [8]) (by kernel_rfl) (by simp) (AllReadyH.cons (o := ?ooa8) ?hia8 (fun K hK => ?hka8) AllReadyH.nil)
            rotate_left
            case hia8 => (simp only [List.getElem?_toArray, List.getElem?_cons_succ, List.getElem?_cons_zero]; rfl)
            (rw [if_pos (by rfl)]; go_simp; refine (CP _).mono ?_; rintro e wp ⟨rfl, hb2⟩; go_wp2_with fail; refine hK.out _ _ (kp6 hb2 hHeld) (fun hHeld => ?_); clear hK K)
            try simp only [Act.put, List.setIfInBounds_toArray, List.set_cons_zero, List.set_cons_succ]
            refine wpAnyH_take (i := 9) (oi := ?ooa9) (v := ?vva9) ?hia9 (by kernel_rfl) ?h3a9 ?h4a9 ?h5a9 ?h6a9 (by assumption) ?h8a9
            case hia9 => (simp only [List.getElem?_toArray, List.getElem?_cons_succ, List.getElem?_cons_zero]; rfl)
            case h3a9 => kernel_rfl
            case h4a9 => kernel_rfl
            case h6a9 => (refine Or.inl ⟨by rfl, ?_⟩; intro w hSw; (try dsimp only at hSw); (go_simp <;> with_reducible rfl))
            case h5a9 => exact fun _ _ _ h => h
            try simp only [Act.put, List.setIfInBounds_toArray, List.set_cons_zero, List.set_cons_succ]
            refine wpAnyH_done (by kernel_rfl) ?_ _
            have kc2 := HKW.out wp hHeld.2
            have HB6 := Lib.hid (bel_tr B5.out hHeld.2)
            clear hHeld hb2 CP c0 c1 c2 c3 c4 kc
            go_wp2_with fail
            go_roundw
            case rel => exact ⟨k + 1, by omega, by go_num, by rw [HLS2.out, show s + (c - p) = s + c - p from by omega], HB6.out⟩
            case measure => simp [intOf]; omega
          · have hls := HLS.out
            rw [if_neg hz] at hls
            have z0 : ((ks.length : Int) == 0) = false := beq_eq_false_iff_ne.2 (by omega)
            have z1 : (ks.length == 0) = false := beq_eq_false_iff_ne.2 hz
            have z2 : ¬ ks = [] := fun e => hz (by rw [e]; rfl)
            have HLS2 := Lib.hid hls
            generalize (comeF ns fl).getD k 0 = c at kc hcb HLS2
            generalize gl.sum = gs at t0 t1 t2 HLS2
            have HB6 := Lib.hid B5.out
            clear hls c0 c1 c2 c3 c4 q1 q2 q3 q4 hpg hpb HLS
            go_wp2_with fail
            go_roundw
            case rel => exact ⟨k + 1, by omega, by go_num, by rw [HLS2.out, show s + (c - gs) = s + c - gs from by omega], HB6.out⟩
            case measure => simp [intOf]; omega
    · have H4 := Lib.hid (bel_tr HB2.out hB)
      clear hB
      go_wp2_with fail
      go_ret
      exact ⟨ret_int (by rw [show k = ns.length from by omega]), H4.out⟩
end Go.Proofs.Ytlpmeljneogpiaa
