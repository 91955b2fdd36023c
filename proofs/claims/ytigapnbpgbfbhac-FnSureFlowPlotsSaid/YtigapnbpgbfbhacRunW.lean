/- Sure flows, deepest needs and sums, by the program. Condition: at most 1048576 numbers. -/
import Derived.Test.YtigapnbpgbfbhacRunT
import Derived.Test.YtigapnbpgbfbhacBis
import Derived.Deep.RegionHeld3
import Derived.Deep.QuietTactic
import Derived.BigQuiet
namespace Go.Proofs.Ytigapnbpgbfbhac
open Go.RowKit
set_option linter.unusedSimpArgs false
set_option linter.unusedVariables false
theorem rep_set {n k : Nat} {z : Int} (h : k < n) : (mixZ (List.replicate n z) k).set k z = mixZ (List.replicate n z) (k + 1) := by
  have := mix_set (zs := List.replicate n z) (k := k) (by simpa using h)
  rw [show (List.replicate n z).getD k 0 = z from by rw [List.getD_eq_getElem?_getD, List.getElem?_replicate, if_pos h]; rfl] at this
  exact this
set_option maxRecDepth 100000 in
set_option maxHeartbeats 4000000 in
/-- impl.steadyHours -/
theorem iSteady (z : Int) (n : Nat) (w : World) (hn : n ≤ 1048576) :
    Calls Try.prog 57 #[.int .i64 z, .int .i64 (n : Int)] w (OutI w (List.replicate n z)) := by
  have hmk := run_make_row' (P := Try.prog) 31 3 (.int .i64 0) 8 Try.underlying31 infoInt rfl .i64 .i64 n (by omega) (by omega)
  have hM := OwnI.made (Below.refl w.heap.size w) n hn
  have hB2 := (Below.refl w.heap.size w).alloc (Nat.le_refl _) (.cells (madeCells #[.int .i64 0] n) 3)
  rw [show List.replicate n (0 : Int) = mixZ (List.replicate n z) 0 from by rw [mix_none (fun i hi hl => by omega), List.length_replicate]] at hM
  have HM := Lib.hid (And.intro hM hB2)
  clear hM hB2
  go_enter Try.func57, Try.ntmps57
  go_wp2_with fail
  clear hmk
  go_loopw [11] (fun i wr => ∃ k : Nat, k ≤ n ∧ i = .int .i64 k ∧ Hid (OwnI wr w.heap.size (.slice (some ⟨w.heap.size, 0, none⟩) n n) (mixZ (List.replicate n z) k) ∧ Below w.heap.size w wr)) (fun i _ => n - (intOf i).toNat)
  case atStart => exact ⟨0, Nat.zero_le _, rfl, HM.out⟩
  case round =>
    clear HM
    obtain ⟨k, hk, rfl, HR⟩ := hrel
    by_cases hlt : k < n
    · obtain ⟨O, B⟩ := HR.out
      have hd := O.cell (j := k) (by rw [mix_len, List.length_replicate]; exact hlt)
      have hf := O.frozen k
      have O2 := O.set_ k z
      rw [rep_set hlt] at O2
      have HS := Lib.hid (And.intro O2 (B.setCell (p := ⟨w.heap.size, k, none⟩) (Nat.le_refl _) (.int .i64 z)))
      generalize (mixZ (List.replicate n z) k).getD k 0 = y at hd
      have k0 : (0 : Int) ≤ (k : Int) := by omega
      have k1 : (k : Int) < (n : Int) := by omega
      clear O O2 B HR
      go_wp2_with fail
      go_roundw
      case rel => exact ⟨k + 1, by omega, by go_num, HS.out⟩
      case measure => simp [intOf]; omega
    · obtain rfl : k = n := by omega
      rw [mix_all (by simp)] at HR
      go_wp2_with fail
      go_ret
      exact ⟨_, rfl, HR.out⟩
set_option maxRecDepth 100000 in
set_option maxHeartbeats 8000000 in
/-- impl.SureFlow -/
theorem iSure (r h : Int) (a : Option Addr) (ca : Nat) (cs : List Int) (w : World) (ha : IsInts w a cs) (hc : cs.length ≤ 1048576) :
    Calls Try.prog 36 #[.agg #[.int .i64 r, .int .i64 h], .slice a cs.length ca] w fun e w' => e = .returned (.int .i64 (sureV r h cs)) ∧ Below w.heap.size w w' := by
  have CV := fun W => iVB r h W
  have CH := fun (W : World) (hW : Below w.heap.size w W) => iHours a ca cs W (ints_below ha hW) hc
  change ∀ W, _ → Calls _ _ _ W fun e w' => e = .returned (.bool (vfl cs)) ∧ W = w' at CH
  cases hv : vbB r h with
  | false =>
    rw [sure_no (.inl hv)]
    rw [hv] at CV
    clear hv CH ha
    go_enter Try.func36, Try.ntmps36
    go_wp2_with fail
    refine (CV _).mono ?_
    rintro e w1 ⟨rfl, C⟩
    go_wp2_with fail
    go_ret
    exact ⟨rfl, bel_tr (by go_grown) C⟩
  | true =>
  rw [hv] at CV
  cases hf : vfl cs with
  | false =>
    rw [sure_no (.inr hf)]
    rw [hf] at CH
    have HCH := Lib.hid CH
    clear hv hf CH ha
    go_enter Try.func36, Try.ntmps36
    go_wp2_with fail
    refine (CV _).mono ?_
    rintro e w1 ⟨rfl, C⟩
    have B1 : Below w.heap.size w w1 := bel_tr (by go_grown) C
    clear C
    go_wp2_with fail
    refine (HCH.out _ B1).mono ?_
    rintro e w' ⟨rfl, rfl⟩
    go_wp2_with fail
    go_ret
    exact ⟨rfl, B1⟩
  | true =>
  rw [hf] at CH
  have HCH := Lib.hid CH
  have HV := Lib.hid (And.intro hv hf)
  have HTOP : Hid (flowOk r h cs 0 = true) := flow_zero ⟨(vb_iff.1 hv).2.2.1, (vb_iff.1 hv).2.2.2⟩ (fun c m => ((vfl_is hf).2 c m).1)
  have HA := Lib.hid ha
  clear hv hf CH ha
  go_enter Try.func36, Try.ntmps36
  go_wp2_with fail
  refine (CV _).mono ?_
  rintro e w1 ⟨rfl, C⟩
  have B1 : Below w.heap.size w w1 := bel_tr (by go_grown) C
  have K1 := (Blk.new w 51 #[.int .i64 r, .int .i64 h]).next C
  have HB0 := Lib.hid (And.intro K1 B1)
  clear C K1
  go_wp2_with fail
  refine (HCH.out _ B1).mono ?_
  rintro e w' ⟨rfl, rfl⟩
  clear B1
  go_wp2_with fail
  go_loopw [5, 6] (fun a1 a2 wr => ∃ lo hi : Int, a1 = .int .i64 lo ∧ a2 = .int .i64 hi ∧ 0 ≤ lo ∧ lo ≤ hi ∧ hi ≤ 500 ∧ Hid (flowOk r h cs lo = true) ∧ Hid (∀ x, hi < x → x ≤ 500 → flowOk r h cs x = false) ∧ Hid (Blk wr w.heap.size 51 #[.int .i64 r, .int .i64 h]) ∧ Hid (Below w.heap.size w wr)) (fun a1 a2 _ => (intOf a2 - intOf a1).toNat)
  case atStart => exact ⟨0, 500, rfl, rfl, by omega, by omega, by omega, HTOP, (fun x h1 h2 => by omega), HB0.out.1, HB0.out.2⟩
  case round =>
    clear HTOP HB0 HCH CV
    obtain ⟨lo, hi, rfl, rfl, l1, l2, l3, HLO, HHI, HK, HB⟩ := hrel
    have HR2 : Hid (Blk wr w.heap.size 51 #[.int .i64 r, .int .i64 h] ∧ Below w.heap.size w wr) := ⟨HK.out, HB.out⟩
    clear HK HB
    by_cases hlt : lo < hi
    · obtain ⟨m, hm⟩ : ∃ m, (lo + hi + 1) / 2 = m := ⟨_, rfl⟩
      have m1 : lo < m := by omega
      have m2 : m ≤ hi := by omega
      have w1_ : IntKind.i64.wrap (lo + hi) = lo + hi := by rw [IntKind.wrap_i64]; omega
      have w5_ : IntKind.i64.wrap (lo + hi + 1) = lo + hi + 1 := by rw [IntKind.wrap_i64]; omega
      have w2_ : Int.tdiv (lo + hi + 1) 2 = m := by rw [Int.tdiv_eq_ediv_of_nonneg (by omega)]; exact hm
      have w3_ : IntKind.i64.wrap m = m := by rw [IntKind.wrap_i64]; omega
      have w4_ : IntKind.i64.wrap (m - 1) = m - 1 := by rw [IntKind.wrap_i64]; omega
      obtain ⟨s0, s1, s2, s3, s4⟩ := blk_two HR2.out.1
      have hrun := flow_run (n := m) HV.out.1 HV.out.2 (by omega) (by omega)
      have hsa := short_at hrun
      have hp : flowOk r h cs m = decide (shortB r h (hrs cs (List.replicate cs.length m)) = 0) := rfl
      obtain ⟨L, hL⟩ : ∃ L, List.replicate cs.length m = L := ⟨_, rfl⟩
      have HLL : Hid (L.length = cs.length) := by show _ = _; rw [← hL]; simp
      have lL : L.length ≤ 1048576 := by rw [HLL.out]; exact hc
      rw [hL] at hsa hp
      have CM : ∀ (bq : Option Addr) (cq : Nat) (W : World), Below w.heap.size w W → IsInts W bq L → Calls Try.prog 38 #[.agg #[.int .i64 r, .int .i64 h], .slice a cs.length ca, .slice bq cs.length cq] W fun e w' => e = .returned (.int .i64 (shortB r h (hrs cs L))) ∧ Below W.heap.size W w' := fun bq cq W hW hI => by
        have := iShort r h a bq ca cq cs L W (ints_below HA.out hW) hI hc lL
        rw [hsa.1, HLL.out] at this; exact this
      have hsn := hsa.2
      generalize shortB r h (hrs cs L) = sv at hsn CM hp
      have HCM := Lib.hid CM
      have HP := Lib.hid hp
      have HLE := Lib.hid hL
      have HM := Lib.hid hm
      clear hrun hsa hp hL hm CM s2 s3
      by_cases hz : sv = 0
      · have e1 : decide (0 < sv) = false := decide_eq_false (by omega)
        have HN : Hid (flowOk r h cs m = true ∧ (∀ x, hi < x → x ≤ 500 → flowOk r h cs x = false)) := ⟨by rw [HP.out]; exact decide_eq_true hz, HHI.out⟩
        clear HP HLO HHI
        go_wp2_with fail
        have MK : ∀ W : World, Below wr.heap.size wr W → (W.cell? ⟨w.heap.size, 0, none⟩ = some (.int .i64 r) ∧ W.cell? ⟨w.heap.size, 1, none⟩ = some (.int .i64 h)) ∧ Below wr.heap.size wr W := fun W hW => ⟨⟨(hW.cell (p := ⟨w.heap.size, 0, none⟩) (s4)).trans s0, (hW.cell (p := ⟨w.heap.size, 1, none⟩) (s4)).trans s1⟩, hW⟩
        have HMK := Lib.hid MK
        clear MK
        refine wp_region_held_drew (S := (fun w' => (w'.cell? ⟨w.heap.size, 0, none⟩ = some (.int .i64 r) ∧ w'.cell? ⟨w.heap.size, 1, none⟩ = some (.int .i64 h)) ∧ Below wr.heap.size wr w')) (by kernel_rfl) ?_ (fun hHeld => ?_)
        · exact ⟨⟨s0, s1⟩, (Below.refl _ _).drew⟩
        refine wpAnyH_take (i := 0) (oi := ?oot1) (v := ?vvt1) ?hit1 (by kernel_rfl) ?h3t1 ?h4t1 ?h5t1 ?h6t1 (by assumption) ?h8t1
        case hit1 => (simp only [List.getElem?_toArray, List.getElem?_cons_succ, List.getElem?_cons_zero]; rfl)
        case h3t1 => kernel_rfl
        case h4t1 => kernel_rfl
        case h6t1 => (refine Or.inl ⟨by rfl, ?_⟩; intro w hSw; (try dsimp only at hSw); (go_simp <;> with_reducible rfl))
        case h5t1 => exact fun _ _ _ h => h
        try simp only [Act.put, List.setIfInBounds_toArray, List.set_cons_zero, List.set_cons_succ]
        refine wpAnyH_take (i := 1) (oi := ?oot2) (v := ?vvt2) ?hit2 (by kernel_rfl) ?h3t2 ?h4t2 ?h5t2 ?h6t2 (by assumption) ?h8t2
        case hit2 => (simp only [List.getElem?_toArray, List.getElem?_cons_succ, List.getElem?_cons_zero]; rfl)
        case h3t2 => kernel_rfl
        case h4t2 => kernel_rfl
        case h6t2 => (refine Or.inl ⟨by rfl, ?_⟩; intro w hSw; (try dsimp only at hSw); (go_simp <;> with_reducible rfl))
        case h5t2 => exact fun _ _ _ h => h
        try simp only [Act.put, List.setIfInBounds_toArray, List.set_cons_zero, List.set_cons_succ]
        refine wpAnyH_take (i := 2) (oi := ?oot3) (v := ?vvt3) ?hit3 (by kernel_rfl) ?h3t3 ?h4t3 ?h5t3 ?h6t3 (by assumption) ?h8t3
        case hit3 => (simp only [List.getElem?_toArray, List.getElem?_cons_succ, List.getElem?_cons_zero]; rfl)
        case h3t3 => kernel_rfl
        case h4t3 => kernel_rfl
        case h6t3 => (refine Or.inl ⟨by rfl, ?_⟩; intro w hSw; (try dsimp only at hSw); (go_simp <;> with_reducible rfl))
        case h5t3 => exact fun _ _ _ h => h
        try simp only [Act.put, List.setIfInBounds_toArray, List.set_cons_zero, List.set_cons_succ]
        refine wpAnyH_take (i := 3) (oi := ?oot4) (v := ?vvt4) ?hit4 (by kernel_rfl) ?h3t4 ?h4t4 ?h5t4 ?h6t4 (by assumption) ?h8t4
        case hit4 => (simp only [List.getElem?_toArray, List.getElem?_cons_succ, List.getElem?_cons_zero]; rfl)
        case h3t4 => kernel_rfl
        case h4t4 => kernel_rfl
        case h6t4 => (refine Or.inl ⟨by rfl, ?_⟩; intro w hSw; (try dsimp only at hSw); (go_simp <;> with_reducible rfl))
        case h5t4 => exact fun _ _ _ h => h
        try simp only [Act.put, List.setIfInBounds_toArray, List.set_cons_zero, List.set_cons_succ]
        refine wpAnyH_take (i := 4) (oi := ?oot5) (v := ?vvt5) ?hit5 (by kernel_rfl) ?h3t5 ?h4t5 ?h5t5 ?h6t5 (by assumption) ?h8t5
        case hit5 => (simp only [List.getElem?_toArray, List.getElem?_cons_succ, List.getElem?_cons_zero]; rfl)
        case h3t5 => kernel_rfl
        case h4t5 => kernel_rfl
        case h6t5 => (refine Or.inl ⟨by rfl, ?_⟩; intro w hSw; (try dsimp only at hSw); (go_simp <;> with_reducible rfl))
        case h5t5 => exact fun _ _ _ h => h
        try simp only [Act.put, List.setIfInBounds_toArray, List.set_cons_zero, List.set_cons_succ]
        refine wpAnyH_ready (rs := [5]) (by kernel_rfl) (by simp) (AllReadyH.cons (o := ?oot6) ?hit6 (fun K hK => ?hkt6) AllReadyH.nil)
        rotate_left
        case hit6 => (simp only [List.getElem?_toArray, List.getElem?_cons_succ, List.getElem?_cons_zero]; rfl)
        (rw [if_pos (by rfl)]; go_simp; refine (iSteady m cs.length _ (by omega)).mono ?_; rintro e wq ⟨v, rfl, O, hb⟩; rw [HLE.out] at O; obtain ⟨bq, cq, rfl, _⟩ := O.ints; have IQ := O.at_; rw [HLL.out]; clear O; go_wp2_with fail; refine hK.out _ _ (HMK.out _ (bel_tr hHeld.2 hb)) (fun hHeld => ?_); clear hK K)
        try simp only [Act.put, List.setIfInBounds_toArray, List.set_cons_zero, List.set_cons_succ]
        refine wpAnyH_ready (rs := [6]) (by kernel_rfl) (by simp) (AllReadyH.cons (o := ?oot7) ?hit7 (fun K hK => ?hkt7) AllReadyH.nil)
        rotate_left
        case hit7 => (simp only [List.getElem?_toArray, List.getElem?_cons_succ, List.getElem?_cons_zero]; rfl)
        (rw [if_pos (by rfl)]; go_simp; refine (HCM.out _ _ _ (bel_tr HR2.out.2 hHeld.2) IQ).mono ?_; rintro e wq2 ⟨rfl, hb2⟩; go_wp2_with fail; refine hK.out _ _ (HMK.out _ (bel_tr hHeld.2 hb2)) (fun hHeld => ?_); clear hK K)
        try simp only [Act.put, List.setIfInBounds_toArray, List.set_cons_zero, List.set_cons_succ]
        refine wpAnyH_take (i := 7) (oi := ?oot8) (v := ?vvt8) ?hit8 (by kernel_rfl) ?h3t8 ?h4t8 ?h5t8 ?h6t8 (by assumption) ?h8t8
        case hit8 => (simp only [List.getElem?_toArray, List.getElem?_cons_succ, List.getElem?_cons_zero]; rfl)
        case h3t8 => kernel_rfl
        case h4t8 => kernel_rfl
        case h6t8 => (refine Or.inl ⟨by rfl, ?_⟩; intro w hSw; (try dsimp only at hSw); (go_simp <;> with_reducible rfl))
        case h5t8 => exact fun _ _ _ h => h
        try simp only [Act.put, List.setIfInBounds_toArray, List.set_cons_zero, List.set_cons_succ]
        refine wpAnyH_done (by kernel_rfl) ?_ _
        have hB2 := bel_tr HR2.out.2 hHeld.2
        have K2 := HR2.out.1.next hHeld.2
        have HS := Lib.hid (And.intro K2 hB2)
        clear hHeld HMK K2 hB2 HR2
        go_wp2_with fail
        go_roundw
        case rel => exact ⟨m, hi, by simp [w2_, w3_], rfl, by omega, m2, l3, HN.out.1, HN.out.2, HS.out.1, HS.out.2⟩
        case measure => simp [intOf, w2_, w3_, w4_]; omega
      · have e1 : decide (0 < sv) = true := decide_eq_true (by omega)
        have HN : Hid (flowOk r h cs lo = true ∧ (∀ x, m - 1 < x → x ≤ 500 → flowOk r h cs x = false)) := ⟨HLO.out, fun x x1 x2 => by
          cases e : flowOk r h cs x with
          | false => rfl
          | true => exact absurd (flow_dn (m := m) HV.out.1 HV.out.2 (by omega) (by omega) e) (by rw [HP.out, decide_eq_false hz]; decide)⟩
        clear HP HLO HHI
        go_wp2_with fail
        have MK : ∀ W : World, Below wr.heap.size wr W → (W.cell? ⟨w.heap.size, 0, none⟩ = some (.int .i64 r) ∧ W.cell? ⟨w.heap.size, 1, none⟩ = some (.int .i64 h)) ∧ Below wr.heap.size wr W := fun W hW => ⟨⟨(hW.cell (p := ⟨w.heap.size, 0, none⟩) (s4)).trans s0, (hW.cell (p := ⟨w.heap.size, 1, none⟩) (s4)).trans s1⟩, hW⟩
        have HMK := Lib.hid MK
        clear MK
        refine wp_region_held_drew (S := (fun w' => (w'.cell? ⟨w.heap.size, 0, none⟩ = some (.int .i64 r) ∧ w'.cell? ⟨w.heap.size, 1, none⟩ = some (.int .i64 h)) ∧ Below wr.heap.size wr w')) (by kernel_rfl) ?_ (fun hHeld => ?_)
        · exact ⟨⟨s0, s1⟩, (Below.refl _ _).drew⟩
        refine wpAnyH_take (i := 0) (oi := ?oot10) (v := ?vvt10) ?hit10 (by kernel_rfl) ?h3t10 ?h4t10 ?h5t10 ?h6t10 (by assumption) ?h8t10
        case hit10 => (simp only [List.getElem?_toArray, List.getElem?_cons_succ, List.getElem?_cons_zero]; rfl)
        case h3t10 => kernel_rfl
        case h4t10 => kernel_rfl
        case h6t10 => (refine Or.inl ⟨by rfl, ?_⟩; intro w hSw; (try dsimp only at hSw); (go_simp <;> with_reducible rfl))
        case h5t10 => exact fun _ _ _ h => h
        try simp only [Act.put, List.setIfInBounds_toArray, List.set_cons_zero, List.set_cons_succ]
        refine wpAnyH_take (i := 1) (oi := ?oot11) (v := ?vvt11) ?hit11 (by kernel_rfl) ?h3t11 ?h4t11 ?h5t11 ?h6t11 (by assumption) ?h8t11
        case hit11 => (simp only [List.getElem?_toArray, List.getElem?_cons_succ, List.getElem?_cons_zero]; rfl)
        case h3t11 => kernel_rfl
        case h4t11 => kernel_rfl
        case h6t11 => (refine Or.inl ⟨by rfl, ?_⟩; intro w hSw; (try dsimp only at hSw); (go_simp <;> with_reducible rfl))
        case h5t11 => exact fun _ _ _ h => h
        try simp only [Act.put, List.setIfInBounds_toArray, List.set_cons_zero, List.set_cons_succ]
        refine wpAnyH_take (i := 2) (oi := ?oot12) (v := ?vvt12) ?hit12 (by kernel_rfl) ?h3t12 ?h4t12 ?h5t12 ?h6t12 (by assumption) ?h8t12
        case hit12 => (simp only [List.getElem?_toArray, List.getElem?_cons_succ, List.getElem?_cons_zero]; rfl)
        case h3t12 => kernel_rfl
        case h4t12 => kernel_rfl
        case h6t12 => (refine Or.inl ⟨by rfl, ?_⟩; intro w hSw; (try dsimp only at hSw); (go_simp <;> with_reducible rfl))
        case h5t12 => exact fun _ _ _ h => h
        try simp only [Act.put, List.setIfInBounds_toArray, List.set_cons_zero, List.set_cons_succ]
        refine wpAnyH_take (i := 3) (oi := ?oot13) (v := ?vvt13) ?hit13 (by kernel_rfl) ?h3t13 ?h4t13 ?h5t13 ?h6t13 (by assumption) ?h8t13
        case hit13 => (simp only [List.getElem?_toArray, List.getElem?_cons_succ, List.getElem?_cons_zero]; rfl)
        case h3t13 => kernel_rfl
        case h4t13 => kernel_rfl
        case h6t13 => (refine Or.inl ⟨by rfl, ?_⟩; intro w hSw; (try dsimp only at hSw); (go_simp <;> with_reducible rfl))
        case h5t13 => exact fun _ _ _ h => h
        try simp only [Act.put, List.setIfInBounds_toArray, List.set_cons_zero, List.set_cons_succ]
        refine wpAnyH_take (i := 4) (oi := ?oot14) (v := ?vvt14) ?hit14 (by kernel_rfl) ?h3t14 ?h4t14 ?h5t14 ?h6t14 (by assumption) ?h8t14
        case hit14 => (simp only [List.getElem?_toArray, List.getElem?_cons_succ, List.getElem?_cons_zero]; rfl)
        case h3t14 => kernel_rfl
        case h4t14 => kernel_rfl
        case h6t14 => (refine Or.inl ⟨by rfl, ?_⟩; intro w hSw; (try dsimp only at hSw); (go_simp <;> with_reducible rfl))
        case h5t14 => exact fun _ _ _ h => h
        try simp only [Act.put, List.setIfInBounds_toArray, List.set_cons_zero, List.set_cons_succ]
        refine wpAnyH_ready (rs := [5]) (by kernel_rfl) (by simp) (AllReadyH.cons (o := ?oot15) ?hit15 (fun K hK => ?hkt15) AllReadyH.nil)
        rotate_left
        case hit15 => (simp only [List.getElem?_toArray, List.getElem?_cons_succ, List.getElem?_cons_zero]; rfl)
        (rw [if_pos (by rfl)]; go_simp; refine (iSteady m cs.length _ (by omega)).mono ?_; rintro e wq ⟨v, rfl, O, hb⟩; rw [HLE.out] at O; obtain ⟨bq, cq, rfl, _⟩ := O.ints; have IQ := O.at_; rw [HLL.out]; clear O; go_wp2_with fail; refine hK.out _ _ (HMK.out _ (bel_tr hHeld.2 hb)) (fun hHeld => ?_); clear hK K)
        try simp only [Act.put, List.setIfInBounds_toArray, List.set_cons_zero, List.set_cons_succ]
        refine wpAnyH_ready (rs := [6]) (by kernel_rfl) (by simp) (AllReadyH.cons (o := ?oot16) ?hit16 (fun K hK => ?hkt16) AllReadyH.nil)
        rotate_left
        case hit16 => (simp only [List.getElem?_toArray, List.getElem?_cons_succ, List.getElem?_cons_zero]; rfl)
        (rw [if_pos (by rfl)]; go_simp; refine (HCM.out _ _ _ (bel_tr HR2.out.2 hHeld.2) IQ).mono ?_; rintro e wq2 ⟨rfl, hb2⟩; go_wp2_with fail; refine hK.out _ _ (HMK.out _ (bel_tr hHeld.2 hb2)) (fun hHeld => ?_); clear hK K)
        try simp only [Act.put, List.setIfInBounds_toArray, List.set_cons_zero, List.set_cons_succ]
        refine wpAnyH_take (i := 7) (oi := ?oot17) (v := ?vvt17) ?hit17 (by kernel_rfl) ?h3t17 ?h4t17 ?h5t17 ?h6t17 (by assumption) ?h8t17
        case hit17 => (simp only [List.getElem?_toArray, List.getElem?_cons_succ, List.getElem?_cons_zero]; rfl)
        case h3t17 => kernel_rfl
        case h4t17 => kernel_rfl
        case h6t17 => (refine Or.inl ⟨by rfl, ?_⟩; intro w hSw; (try dsimp only at hSw); (go_simp <;> with_reducible rfl))
        case h5t17 => exact fun _ _ _ h => h
        try simp only [Act.put, List.setIfInBounds_toArray, List.set_cons_zero, List.set_cons_succ]
        refine wpAnyH_done (by kernel_rfl) ?_ _
        have hB2 := bel_tr HR2.out.2 hHeld.2
        have K2 := HR2.out.1.next hHeld.2
        have HS := Lib.hid (And.intro K2 hB2)
        clear hHeld HMK K2 hB2 HR2
        go_wp2_with fail
        go_roundw
        case rel => exact ⟨lo, (m - 1), rfl, by simp [w2_, w3_, w4_], l1, by omega, by omega, HN.out.1, HN.out.2, HS.out.1, HS.out.2⟩
        case measure => simp [intOf, w2_, w3_, w4_]; omega
    · obtain rfl : lo = hi := by omega
      have HX : Hid (sureV r h cs = lo) := sure_yes HV.out.1 HV.out.2 l1 l3 HLO.out HHI.out
      clear HLO HHI
      go_wp2_with fail
      go_ret
      exact ⟨ret_int HX.out.symm, HR2.out.2⟩
end Go.Proofs.Ytigapnbpgbfbhac
