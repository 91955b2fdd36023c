/- Sure flows, deepest needs and sums, by the model. Condition: at most 1048576 numbers. -/
import Derived.Test.YtigapnbpgbfbhacRunW
namespace Go.Proofs.Ytigapnbpgbfbhac
open Go.RowKit
set_option linter.unusedSimpArgs false
set_option linter.unusedVariables false
theorem rep_snoc (k : Nat) (z : Int) : List.replicate (k + 1) z = List.replicate k z ++ [z] := by rw [List.replicate_succ']
set_option maxRecDepth 100000 in
set_option maxHeartbeats 4000000 in
/-- spec.steady -/
theorem sSteady (z : Int) (n : Nat) (w : World) (hn : n ≤ 1048576) :
    Calls Try.prog 61 #[.int .i64 z, .int .i64 (n : Int)] w (OutI w (List.replicate n z)) := by
  have HM := Lib.hid (And.intro (OwnI.new (Below.refl w.heap.size w)) ((Below.refl w.heap.size w).alloc (Nat.le_refl _) (.cells #[] 3)))
  go_enter Try.func61, Try.ntmps61
  go_wp2_with fail
  go_loopw [5, 6] (fun v i wr => ∃ k : Nat, k ≤ n ∧ i = .int .i64 k ∧ Hid (OwnI wr w.heap.size v (List.replicate k z)) ∧ Hid (Below w.heap.size w wr)) (fun _ i _ => n - (intOf i).toNat)
  case atStart => exact ⟨0, Nat.zero_le _, rfl, HM.out.1, HM.out.2⟩
  case round =>
    clear HM
    obtain ⟨k, hk, rfl, HO, HB⟩ := hrel
    by_cases hlt : k < n
    · have HL : Hid ((List.replicate k z).length = k) := List.length_replicate ..
      have k1 : (k : Int) < (n : Int) := by omega
      go_wp2_with (first | (at_builtin; refine wp_snoc rfl _ _ rfl rfl HO.out rfl rfl (by rw [HL.out]; omega) (HB.out.size) ?_; intro v3 w3 Q1 G3 n3))
      have B2 := below_gv HB.out G3 (fun q hq => HO.out.grow q hq)
      rw [← rep_snoc] at Q1
      have HS := Lib.hid (And.intro Q1 B2)
      clear Q1 B2 G3 n3 HO HB
      go_roundw
      case rel => exact ⟨k + 1, by omega, by go_num, HS.out.1, HS.out.2⟩
      case measure => simp [intOf]; omega
    · obtain rfl : k = n := by omega
      go_wp2_with fail
      go_ret
      exact ⟨_, rfl, HO.out, HB.out⟩
set_option maxRecDepth 100000 in
set_option maxHeartbeats 8000000 in
/-- spec.SureFlow -/
theorem sSure (r h : Int) (a : Option Addr) (ca : Nat) (cs : List Int) (w : World) (ha : IsInts w a cs) (hc : cs.length ≤ 1048576) :
    Calls Try.prog 37 #[.agg #[.int .i64 r, .int .i64 h], .slice a cs.length ca] w fun e w' => e = .returned (.int .i64 (sureV r h cs)) ∧ Below w.heap.size w w' := by
  have CV := fun W => svb r h W
  have CH := fun (W : World) (hW : Below w.heap.size w W) => svflows a ca cs W (ints_below ha hW) hc
  change ∀ W, _ → Calls _ _ _ W fun e w' => e = .returned (.bool (vfl cs)) ∧ W = w' at CH
  cases hv : vbB r h with
  | false =>
    rw [sure_no (.inl hv)]
    rw [hv] at CV
    clear hv CH ha
    go_enter Try.func37, Try.ntmps37
    go_wp2_with fail
    refine (CV _).mono ?_
    rintro e w1 ⟨rfl, C⟩
    go_wp2_with fail
    go_ret
    exact ⟨rfl, bel_tr (by go_grown) C⟩
  | true =>
  rw [hv] at CV
  cases hf : vfl cs with
  | false =>
    rw [sure_no (.inr hf)]
    rw [hf] at CH
    have HCH := Lib.hid CH
    clear hv hf CH ha
    go_enter Try.func37, Try.ntmps37
    go_wp2_with fail
    refine (CV _).mono ?_
    rintro e w1 ⟨rfl, C⟩
    have B1 : Below w.heap.size w w1 := bel_tr (by go_grown) C
    clear C
    go_wp2_with fail
    refine (HCH.out _ B1).mono ?_
    rintro e w' ⟨rfl, rfl⟩
    go_wp2_with fail
    go_ret
    exact ⟨rfl, B1⟩
  | true =>
  rw [hf] at CH
  have HCH := Lib.hid CH
  have HV := Lib.hid (And.intro hv hf)
  have HTOP : Hid (flowOk r h cs 0 = true) := flow_zero ⟨(vb_iff.1 hv).2.2.1, (vb_iff.1 hv).2.2.2⟩ (fun c m => ((vfl_is hf).2 c m).1)
  have HA := Lib.hid ha
  clear hv hf CH ha
  go_enter Try.func37, Try.ntmps37
  go_wp2_with fail
  refine (CV _).mono ?_
  rintro e w1 ⟨rfl, C⟩
  have B1 : Below w.heap.size w w1 := bel_tr (by go_grown) C
  have K1 := (Blk.new w 51 #[.int .i64 r, .int .i64 h]).next C
  have HB0 := Lib.hid (And.intro K1 B1)
  clear C K1
  go_wp2_with fail
  refine (HCH.out _ B1).mono ?_
  rintro e w' ⟨rfl, rfl⟩
  clear B1
  go_wp2_with fail
  go_loopw [5, 6] (fun a1 a2 wr => ∃ lo m : Int, a1 = .int .i64 lo ∧ a2 = .int .i64 m ∧ 0 ≤ lo ∧ lo < m ∧ m ≤ 501 ∧ Hid (flowOk r h cs lo = true ∧ ∀ x, lo < x → x < m → flowOk r h cs x = false) ∧ Hid (Blk wr w.heap.size 51 #[.int .i64 r, .int .i64 h]) ∧ Hid (Below w.heap.size w wr)) (fun a1 a2 _ => 501 - (intOf a2).toNat)
  case atStart => exact ⟨0, 1, rfl, rfl, by omega, by omega, by omega, ⟨HTOP.out, fun x h1 h2 => by omega⟩, HB0.out.1, HB0.out.2⟩
  case round =>
    clear HTOP HB0 HCH CV
    obtain ⟨lo, m, rfl, rfl, l1, l2, l3, HLO, HK, HB⟩ := hrel
    have HR2 : Hid (Blk wr w.heap.size 51 #[.int .i64 r, .int .i64 h] ∧ Below w.heap.size w wr) := ⟨HK.out, HB.out⟩
    clear HK HB
    by_cases hlt : m ≤ 500
    · have w3_ : IntKind.i64.wrap (m + 1) = m + 1 := by rw [IntKind.wrap_i64]; omega
      obtain ⟨s0, s1, s2, s3, s4⟩ := blk_two HR2.out.1
      have hrun := flow_run (n := m) HV.out.1 HV.out.2 (by omega) (by omega)
      have hp : flowOk r h cs m = decide (shortB r h (hrs cs (List.replicate cs.length m)) = 0) := rfl
      obtain ⟨L, hL⟩ : ∃ L, List.replicate cs.length m = L := ⟨_, rfl⟩
      have HLL : Hid (L.length = cs.length) := by show _ = _; rw [← hL]; simp
      have lL : L.length ≤ 1048576 := by rw [HLL.out]; exact hc
      rw [hL] at hrun hp
      have CM : ∀ (bq : Option Addr) (cq : Nat) (W : World), Below w.heap.size w W → IsInts W bq L → Calls Try.prog 60 #[.agg #[.int .i64 r, .int .i64 h], .slice a cs.length ca, .slice bq cs.length cq] W fun e w' => e = .returned (.int .i64 (shortB r h (hrs cs L))) ∧ Below W.heap.size W w' := fun bq cq W hW hI => by
        have := sshort r h a bq ca cq cs L W (ints_below HA.out hW) hI hc lL hrun
        rw [HLL.out] at this; exact this
      generalize shortB r h (hrs cs L) = sv at CM hp
      have HCM := Lib.hid CM
      have HP := Lib.hid hp
      have HLE := Lib.hid hL
      clear hrun hp hL CM s2 s3
      by_cases hz : sv = 0
      · have e1 : (sv == 0) = true := by rw [beq_iff_eq]; exact hz
        have HN : Hid (flowOk r h cs m = true ∧ (∀ x, m < x → x < m + 1 → flowOk r h cs x = false)) := ⟨by rw [HP.out]; exact decide_eq_true hz, fun x x1 x2 => by omega⟩
        clear HP HLO
        go_wp2_with fail
        have MK : ∀ W : World, Below wr.heap.size wr W → (W.cell? ⟨w.heap.size, 0, none⟩ = some (.int .i64 r) ∧ W.cell? ⟨w.heap.size, 1, none⟩ = some (.int .i64 h)) ∧ Below wr.heap.size wr W := fun W hW => ⟨⟨(hW.cell (p := ⟨w.heap.size, 0, none⟩) (s4)).trans s0, (hW.cell (p := ⟨w.heap.size, 1, none⟩) (s4)).trans s1⟩, hW⟩
        have HMK := Lib.hid MK
        clear MK
        refine wp_region_held_drew (S := (fun w' => (w'.cell? ⟨w.heap.size, 0, none⟩ = some (.int .i64 r) ∧ w'.cell? ⟨w.heap.size, 1, none⟩ = some (.int .i64 h)) ∧ Below wr.heap.size wr w')) (by kernel_rfl) ?_ (fun hHeld => ?_)
        · exact ⟨⟨s0, s1⟩, (Below.refl _ _).drew⟩
        refine wpAnyH_take (i := 0) (oi := ?oot1) (v := ?vvt1) ?hit1 (by kernel_rfl) ?h3t1 ?h4t1 ?h5t1 ?h6t1 (by assumption) ?h8t1
        case hit1 => (simp only [List.getElem?_toArray, List.getElem?_cons_succ, List.getElem?_cons_zero]; rfl)
        case h3t1 => kernel_rfl
        case h4t1 => kernel_rfl
        case h6t1 => (refine Or.inl ⟨by rfl, ?_⟩; intro w hSw; (try dsimp only at hSw); (go_simp <;> with_reducible rfl))
        case h5t1 => exact fun _ _ _ h => h
        try simp only [Act.put, List.setIfInBounds_toArray, List.set_cons_zero, List.set_cons_succ]
        refine wpAnyH_take (i := 1) (oi := ?oot2) (v := ?vvt2) ?hit2 (by kernel_rfl) ?h3t2 ?h4t2 ?h5t2 ?h6t2 (by assumption) ?h8t2
        case hit2 => (simp only [List.getElem?_toArray, List.getElem?_cons_succ, List.getElem?_cons_zero]; rfl)
        case h3t2 => kernel_rfl
        case h4t2 => kernel_rfl
        case h6t2 => (refine Or.inl ⟨by rfl, ?_⟩; intro w hSw; (try dsimp only at hSw); (go_simp <;> with_reducible rfl))
        case h5t2 => exact fun _ _ _ h => h
        try simp only [Act.put, List.setIfInBounds_toArray, List.set_cons_zero, List.set_cons_succ]
        refine wpAnyH_take (i := 2) (oi := ?oot3) (v := ?vvt3) ?hit3 (by kernel_rfl) ?h3t3 ?h4t3 ?h5t3 ?h6t3 (by assumption) ?h8t3
        case hit3 => (simp only [List.getElem?_toArray, List.getElem?_cons_succ, List.getElem?_cons_zero]; rfl)
        case h3t3 => kernel_rfl
        case h4t3 => kernel_rfl
        case h6t3 => (refine Or.inl ⟨by rfl, ?_⟩; intro w hSw; (try dsimp only at hSw); (go_simp <;> with_reducible rfl))
        case h5t3 => exact fun _ _ _ h => h
        try simp only [Act.put, List.setIfInBounds_toArray, List.set_cons_zero, List.set_cons_succ]
        refine wpAnyH_take (i := 3) (oi := ?oot4) (v := ?vvt4) ?hit4 (by kernel_rfl) ?h3t4 ?h4t4 ?h5t4 ?h6t4 (by assumption) ?h8t4
        case hit4 => (simp only [List.getElem?_toArray, List.getElem?_cons_succ, List.getElem?_cons_zero]; rfl)
        case h3t4 => kernel_rfl
        case h4t4 => kernel_rfl
        case h6t4 => (refine Or.inl ⟨by rfl, ?_⟩; intro w hSw; (try dsimp only at hSw); (go_simp <;> with_reducible rfl))
        case h5t4 => exact fun _ _ _ h => h
        try simp only [Act.put, List.setIfInBounds_toArray, List.set_cons_zero, List.set_cons_succ]
        refine wpAnyH_take (i := 4) (oi := ?oot5) (v := ?vvt5) ?hit5 (by kernel_rfl) ?h3t5 ?h4t5 ?h5t5 ?h6t5 (by assumption) ?h8t5
        case hit5 => (simp only [List.getElem?_toArray, List.getElem?_cons_succ, List.getElem?_cons_zero]; rfl)
        case h3t5 => kernel_rfl
        case h4t5 => kernel_rfl
        case h6t5 => (refine Or.inl ⟨by rfl, ?_⟩; intro w hSw; (try dsimp only at hSw); (go_simp <;> with_reducible rfl))
        case h5t5 => exact fun _ _ _ h => h
        try simp only [Act.put, List.setIfInBounds_toArray, List.set_cons_zero, List.set_cons_succ]
        refine wpAnyH_ready (rs := [5]) (by kernel_rfl) (by simp) (AllReadyH.cons (o := ?oot6) ?hit6 (fun K hK => ?hkt6) AllReadyH.nil)
        rotate_left
        case hit6 => (simp only [List.getElem?_toArray, List.getElem?_cons_succ, List.getElem?_cons_zero]; rfl)
        (rw [if_pos (by rfl)]; go_simp; refine (sSteady m cs.length _ (by omega)).mono ?_; rintro e wq ⟨v, rfl, O, hb⟩; rw [HLE.out] at O; obtain ⟨bq, cq, rfl, _⟩ := O.ints; have IQ := O.at_; rw [HLL.out]; clear O; go_wp2_with fail; refine hK.out _ _ (HMK.out _ (bel_tr hHeld.2 hb)) (fun hHeld => ?_); clear hK K)
        try simp only [Act.put, List.setIfInBounds_toArray, List.set_cons_zero, List.set_cons_succ]
        refine wpAnyH_ready (rs := [6]) (by kernel_rfl) (by simp) (AllReadyH.cons (o := ?oot7) ?hit7 (fun K hK => ?hkt7) AllReadyH.nil)
        rotate_left
        case hit7 => (simp only [List.getElem?_toArray, List.getElem?_cons_succ, List.getElem?_cons_zero]; rfl)
        (rw [if_pos (by rfl)]; go_simp; refine (HCM.out _ _ _ (bel_tr HR2.out.2 hHeld.2) IQ).mono ?_; rintro e wq2 ⟨rfl, hb2⟩; go_wp2_with fail; refine hK.out _ _ (HMK.out _ (bel_tr hHeld.2 hb2)) (fun hHeld => ?_); clear hK K)
        try simp only [Act.put, List.setIfInBounds_toArray, List.set_cons_zero, List.set_cons_succ]
        refine wpAnyH_take (i := 7) (oi := ?oot8) (v := ?vvt8) ?hit8 (by kernel_rfl) ?h3t8 ?h4t8 ?h5t8 ?h6t8 (by assumption) ?h8t8
        case hit8 => (simp only [List.getElem?_toArray, List.getElem?_cons_succ, List.getElem?_cons_zero]; rfl)
        case h3t8 => kernel_rfl
        case h4t8 => kernel_rfl
        case h6t8 => (refine Or.inl ⟨by rfl, ?_⟩; intro w hSw; (try dsimp only at hSw); (go_simp <;> with_reducible rfl))
        case h5t8 => exact fun _ _ _ h => h
        try simp only [Act.put, List.setIfInBounds_toArray, List.set_cons_zero, List.set_cons_succ]
        refine wpAnyH_done (by kernel_rfl) ?_ _
        have hB2 := bel_tr HR2.out.2 hHeld.2
        have K2 := HR2.out.1.next hHeld.2
        have HS := Lib.hid (And.intro K2 hB2)
        clear hHeld HMK K2 hB2 HR2
        go_wp2_with fail
        go_roundw
        case rel => exact ⟨m, m + 1, rfl, by simp [w3_], by omega, by omega, by omega, HN.out, HS.out.1, HS.out.2⟩
        case measure => simp [intOf, w3_]; omega
      · have e1 : (sv == 0) = false := by rw [beq_eq_false_iff_ne]; exact hz
        have HN : Hid (flowOk r h cs lo = true ∧ (∀ x, lo < x → x < m + 1 → flowOk r h cs x = false)) := ⟨HLO.out.1, fun x x1 x2 => by
          by_cases c : x = m
          · subst c; rw [HP.out]; exact decide_eq_false hz
          · exact HLO.out.2 x x1 (by omega)⟩
        clear HP HLO
        go_wp2_with fail
        have MK : ∀ W : World, Below wr.heap.size wr W → (W.cell? ⟨w.heap.size, 0, none⟩ = some (.int .i64 r) ∧ W.cell? ⟨w.heap.size, 1, none⟩ = some (.int .i64 h)) ∧ Below wr.heap.size wr W := fun W hW => ⟨⟨(hW.cell (p := ⟨w.heap.size, 0, none⟩) (s4)).trans s0, (hW.cell (p := ⟨w.heap.size, 1, none⟩) (s4)).trans s1⟩, hW⟩
        have HMK := Lib.hid MK
        clear MK
        refine wp_region_held_drew (S := (fun w' => (w'.cell? ⟨w.heap.size, 0, none⟩ = some (.int .i64 r) ∧ w'.cell? ⟨w.heap.size, 1, none⟩ = some (.int .i64 h)) ∧ Below wr.heap.size wr w')) (by kernel_rfl) ?_ (fun hHeld => ?_)
        · exact ⟨⟨s0, s1⟩, (Below.refl _ _).drew⟩
        refine wpAnyH_take (i := 0) (oi := ?oot10) (v := ?vvt10) ?hit10 (by kernel_rfl) ?h3t10 ?h4t10 ?h5t10 ?h6t10 (by assumption) ?h8t10
        case hit10 => (simp only [List.getElem?_toArray, List.getElem?_cons_succ, List.getElem?_cons_zero]; rfl)
        case h3t10 => kernel_rfl
        case h4t10 => kernel_rfl
        case h6t10 => (refine Or.inl ⟨by rfl, ?_⟩; intro w hSw; (try dsimp only at hSw); (go_simp <;> with_reducible rfl))
        case h5t10 => exact fun _ _ _ h => h
        try simp only [Act.put, List.setIfInBounds_toArray, List.set_cons_zero, List.set_cons_succ]
        refine wpAnyH_take (i := 1) (oi := ?oot11) (v := ?vvt11) ?hit11 (by kernel_rfl) ?h3t11 ?h4t11 ?h5t11 ?h6t11 (by assumption) ?h8t11
        case hit11 => (simp only [List.getElem?_toArray, List.getElem?_cons_succ, List.getElem?_cons_zero]; rfl)
        case h3t11 => kernel_rfl
        case h4t11 => kernel_rfl
        case h6t11 => (refine Or.inl ⟨by rfl, ?_⟩; intro w hSw; (try dsimp only at hSw); (go_simp <;> with_reducible rfl))
        case h5t11 => exact fun _ _ _ h => h
        try simp only [Act.put, List.setIfInBounds_toArray, List.set_cons_zero, List.set_cons_succ]
        refine wpAnyH_take (i := 2) (oi := ?oot12) (v := ?vvt12) ?hit12 (by kernel_rfl) ?h3t12 ?h4t12 ?h5t12 ?h6t12 (by assumption) ?h8t12
        case hit12 => (simp only [List.getElem?_toArray, List.getElem?_cons_succ, List.getElem?_cons_zero]; rfl)
        case h3t12 => kernel_rfl
        case h4t12 => kernel_rfl
        case h6t12 => (refine Or.inl ⟨by rfl, ?_⟩; intro w hSw; (try dsimp only at hSw); (go_simp <;> with_reducible rfl))
        case h5t12 => exact fun _ _ _ h => h
        try simp only [Act.put, List.setIfInBounds_toArray, List.set_cons_zero, List.set_cons_succ]
        refine wpAnyH_take (i := 3) (oi := ?oot13) (v := ?vvt13) ?hit13 (by kernel_rfl) ?h3t13 ?h4t13 ?h5t13 ?h6t13 (by assumption) ?h8t13
        case hit13 => (simp only [List.getElem?_toArray, List.getElem?_cons_succ, List.getElem?_cons_zero]; rfl)
        case h3t13 => kernel_rfl
        case h4t13 => kernel_rfl
        case h6t13 => (refine Or.inl ⟨by rfl, ?_⟩; intro w hSw; (try dsimp only at hSw); (go_simp <;> with_reducible rfl))
        case h5t13 => exact fun _ _ _ h => h
        try simp only [Act.put, List.setIfInBounds_toArray, List.set_cons_zero, List.set_cons_succ]
        refine wpAnyH_take (i := 4) (oi := ?oot14) (v := ?vvt14) ?hit14 (by kernel_rfl) ?h3t14 ?h4t14 ?h5t14 ?h6t14 (by assumption) ?h8t14
        case hit14 => (simp only [List.getElem?_toArray, List.getElem?_cons_succ, List.getElem?_cons_zero]; rfl)
        case h3t14 => kernel_rfl
        case h4t14 => kernel_rfl
        case h6t14 => (refine Or.inl ⟨by rfl, ?_⟩; intro w hSw; (try dsimp only at hSw); (go_simp <;> with_reducible rfl))
        case h5t14 => exact fun _ _ _ h => h
        try simp only [Act.put, List.setIfInBounds_toArray, List.set_cons_zero, List.set_cons_succ]
        refine wpAnyH_ready (rs := [5]) (by kernel_rfl) (by simp) (AllReadyH.cons (o := ?oot15) ?hit15 (fun K hK => ?hkt15) AllReadyH.nil)
        rotate_left
        case hit15 => (simp only [List.getElem?_toArray, List.getElem?_cons_succ, List.getElem?_cons_zero]; rfl)
        (rw [if_pos (by rfl)]; go_simp; refine (sSteady m cs.length _ (by omega)).mono ?_; rintro e wq ⟨v, rfl, O, hb⟩; rw [HLE.out] at O; obtain ⟨bq, cq, rfl, _⟩ := O.ints; have IQ := O.at_; rw [HLL.out]; clear O; go_wp2_with fail; refine hK.out _ _ (HMK.out _ (bel_tr hHeld.2 hb)) (fun hHeld => ?_); clear hK K)
        try simp only [Act.put, List.setIfInBounds_toArray, List.set_cons_zero, List.set_cons_succ]
        refine wpAnyH_ready (rs := [6]) (by kernel_rfl) (by simp) (AllReadyH.cons (o := ?oot16) ?hit16 (fun K hK => ?hkt16) AllReadyH.nil)
        rotate_left
        case hit16 => (simp only [List.getElem?_toArray, List.getElem?_cons_succ, List.getElem?_cons_zero]; rfl)
        (rw [if_pos (by rfl)]; go_simp; refine (HCM.out _ _ _ (bel_tr HR2.out.2 hHeld.2) IQ).mono ?_; rintro e wq2 ⟨rfl, hb2⟩; go_wp2_with fail; refine hK.out _ _ (HMK.out _ (bel_tr hHeld.2 hb2)) (fun hHeld => ?_); clear hK K)
        try simp only [Act.put, List.setIfInBounds_toArray, List.set_cons_zero, List.set_cons_succ]
        refine wpAnyH_take (i := 7) (oi := ?oot17) (v := ?vvt17) ?hit17 (by kernel_rfl) ?h3t17 ?h4t17 ?h5t17 ?h6t17 (by assumption) ?h8t17
        case hit17 => (simp only [List.getElem?_toArray, List.getElem?_cons_succ, List.getElem?_cons_zero]; rfl)
        case h3t17 => kernel_rfl
        case h4t17 => kernel_rfl
        case h6t17 => (refine Or.inl ⟨by rfl, ?_⟩; intro w hSw; (try dsimp only at hSw); (go_simp <;> with_reducible rfl))
        case h5t17 => exact fun _ _ _ h => h
        try simp only [Act.put, List.setIfInBounds_toArray, List.set_cons_zero, List.set_cons_succ]
        refine wpAnyH_done (by kernel_rfl) ?_ _
        have hB2 := bel_tr HR2.out.2 hHeld.2
        have K2 := HR2.out.1.next hHeld.2
        have HS := Lib.hid (And.intro K2 hB2)
        clear hHeld HMK K2 hB2 HR2
        go_wp2_with fail
        go_roundw
        case rel => exact ⟨lo, m + 1, rfl, by simp [w3_], by omega, by omega, by omega, HN.out, HS.out.1, HS.out.2⟩
        case measure => simp [intOf, w3_]; omega
    · have HX : Hid (sureV r h cs = lo) := sure_yes HV.out.1 HV.out.2 l1 (by omega) HLO.out.1 (fun x x1 x2 => HLO.out.2 x x1 (by omega))
      clear HLO
      go_wp2_with fail
      go_ret
      exact ⟨ret_int HX.out.symm, HR2.out.2⟩
end Go.Proofs.Ytigapnbpgbfbhac
