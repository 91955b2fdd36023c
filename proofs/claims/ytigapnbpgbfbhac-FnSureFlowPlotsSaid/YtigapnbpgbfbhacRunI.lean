/- Days of a basin, by the program. Condition: at most 1048576 numbers. -/
import Derived.Test.YtigapnbpgbfbhacBasI
import Derived.Test.YtigapnbpgbfbhacGrA
import Derived.Deep.RegionHeld3
namespace Go.Proofs.Ytigapnbpgbfbhac
open Go.RowKit
set_option linter.unusedSimpArgs false
set_option linter.unusedVariables false
/-- what a function that hands back numbers in a row of its own and a basin leaves -/
def OutIB (w : World) (L : List Int) (r h : Int) (e : Ending) (w' : World) : Prop := ∃ v, e = .returned (.tuple #[v, .agg #[.int .i64 r, .int .i64 h]]) ∧ OwnI w' w.heap.size v L ∧ Below w.heap.size w w'
theorem runL_no {r h : Int} {cs ws : List Int} (e : runBa r h cs ws = false) : runL r h cs ws = [] ∧ spiL r h cs ws = [] ∧ runR r h cs ws = 0 ∧ runH r h cs ws = 0 ∧ shortV r h cs ws = -1 := by
  unfold runL spiL runR runH shortV; rw [e]; exact ⟨rfl, rfl, rfl, rfl, rfl⟩
theorem runL_yes {r h : Int} {cs ws : List Int} (e : runBa r h cs ws = true) : runL r h cs ws = givesL r h (hrs cs ws) ∧ spiL r h cs ws = spillsL r h (hrs cs ws) ∧ runR r h cs ws = r ∧ runH r h cs ws = endB r h (hrs cs ws) ∧ shortV r h cs ws = shortB r h (hrs cs ws) := by
  unfold runL spiL runR runH shortV; rw [e]; exact ⟨rfl, rfl, rfl, rfl, rfl⟩
theorem gives_at {cs ws : List Int} (hl : ws.length = cs.length) {k : Nat} (hk : k < cs.length) (r h : Int) : (givesL r h (hrs cs ws)).getD k 0 = giveH (endB r h ((hrs cs ws).take k)) (cs.getD k 0) (ws.getD k 0) ∧ (spillsL r h (hrs cs ws)).getD k 0 = spillH r (endB r h ((hrs cs ws).take k)) (cs.getD k 0) (ws.getD k 0) := by
  have hn := hrs_len hl
  have e : hrs cs ws = ((hrs cs ws).take k ++ [(cs.getD k 0, ws.getD k 0)]) ++ (hrs cs ws).drop (k + 1) := by rw [← hrs_take hl hk, List.take_append_drop]
  have l1 := gives_len r ((hrs cs ws).take k) h
  have l2 := spills_len r ((hrs cs ws).take k) h
  rw [List.length_take, Nat.min_eq_left (by omega)] at l1 l2
  generalize (hrs cs ws).drop (k + 1) = d at e
  generalize (hrs cs ws).take k = t at e l1 l2
  rw [e, gives_append, gives_append, spills_append, spills_append]
  refine ⟨?_, ?_⟩
  · rw [List.getD_eq_getElem?_getD, List.getElem?_append_left (by rw [List.length_append, l1]; show k < k + 1; omega), List.getElem?_append_right (by omega), l1, Nat.sub_self]; rfl
  · rw [List.getD_eq_getElem?_getD, List.getElem?_append_left (by rw [List.length_append, l2]; show k < k + 1; omega), List.getElem?_append_right (by omega), l2, Nat.sub_self]; rfl
/-- the cells of two lists of numbers -/
theorem two_at {w wr : World} {a b : Option Addr} {cs ws : List Int} (ha : IsInts w a cs) (hb : IsInts w b ws) (hB : Below w.heap.size w wr) {k : Nat} (h1 : k < cs.length) (h2 : k < ws.length) : ∃ ga oa gb ob, a = some ⟨ga, oa, none⟩ ∧ b = some ⟨gb, ob, none⟩ ∧ wr.cell? ⟨ga, oa + k, none⟩ = some (.int .i64 (cs.getD k 0)) ∧ wr.cell? ⟨gb, ob + k, none⟩ = some (.int .i64 (ws.getD k 0)) ∧ ga < wr.heap.size ∧ gb < wr.heap.size := by
  rcases ints_below ha hB with rfl | ⟨ga, oa, rfl, hca⟩
  · simp at h1
  rcases ints_below hb hB with rfl | ⟨gb, ob, rfl, hcb⟩
  · simp at h2
  have x := hca k h1
  have y := hcb k h2
  exact ⟨ga, oa, gb, ob, rfl, rfl, x, y, World.block_lt_of_cell? _ _ x, World.block_lt_of_cell? _ _ y⟩
set_option maxRecDepth 100000 in
set_option maxHeartbeats 8000000 in
/-- impl.RunBasin -/
theorem iRun (r h : Int) (a b : Option Addr) (ca cb : Nat) (cs ws : List Int) (w : World) (ha : IsInts w a cs) (hb : IsInts w b ws) (hc : cs.length ≤ 1048576) (hw : ws.length ≤ 1048576) :
    Calls Try.prog 63 #[.agg #[.int .i64 r, .int .i64 h], .slice a cs.length ca, .slice b ws.length cb] w (OutIB w (runL r h cs ws) (runR r h cs ws) (runH r h cs ws)) := by
  have CR := fun (W : World) (hW : Below w.heap.size w W) => iCanRun r h a b ca cb cs ws W (ints_below ha hW) (ints_below hb hW) hc hw
  cases hr : runBa r h cs ws with
  | false =>
    rw [hr] at CR
    obtain ⟨z1, z2, z3, z4, _⟩ := runL_no hr
    rw [z1, z3, z4]
    have HCR := Lib.hid CR
    clear CR hr ha hb z1 z2 z3 z4
    go_enter Try.func63, Try.ntmps63
    go_wp2_with fail
    refine (HCR.out _ (by go_grown)).mono ?_
    rintro e w1 ⟨rfl, C⟩
    have B1 : Below w.heap.size w w1 := bel_tr (by go_grown) C
    have R0 := (Blk.new (w.alloc (.cells #[.int .i64 r, .int .i64 h] 51)) 51 #[.int .i64 0, .int .i64 0]).next C
    rw [World.size_alloc] at R0
    have HRB := Lib.hid R0
    obtain ⟨s0, s1, s2, s3, s4⟩ := blk_two R0
    clear R0 C HCR
    go_wp2_with fail
    obtain ⟨f0, f1, _, _, _⟩ := blk_two (HRB.out.two (.int .i64 0) (.int .i64 0))
    refine bodyPost_ret (v := .tuple #[.slice none 0 0, .agg #[.int .i64 0, .int .i64 0]]) (by simp [results, Try.results63, go_sem, f0, f1]) rfl ⟨_, rfl, OwnI.nil _ _, by go_grown⟩
  | true =>
  rw [hr] at CR
  obtain ⟨z1, z2, z3, z4, _⟩ := runL_yes hr
  rw [z1, z3, z4]
  obtain ⟨⟨r0, r1, r2, r3⟩, v1, v2, hl⟩ := run_is hr
  have l200 := (vfl_is v1).1
  have hmk := run_make_row' (P := Try.prog) 31 3 (.int .i64 0) 8 Try.underlying31 infoInt rfl .i64 .i64 cs.length (by omega) (by omega)
  have HLL : Hid ((givesL r h (hrs cs ws)).length = cs.length) := (gives_len r (hrs cs ws) h).trans (hrs_len hl)
  have HV := Lib.hid (And.intro v1 (And.intro v2 hl))
  have HVB := Lib.hid (vb_iff.2 ⟨r0, r1, r2, r3⟩)
  have HCR := Lib.hid CR
  have HA := Lib.hid ha
  have HBB := Lib.hid hb
  have HH := Lib.hid (And.intro r2 r3)
  clear CR hr ha hb z1 z2 z3 z4 v1 v2 hl
  go_enter Try.func63, Try.ntmps63
  go_wp2_with fail
  refine (HCR.out _ (by go_grown)).mono ?_
  rintro e w1 ⟨rfl, C⟩
  have K0 := ((Blk.new w 51 #[.int .i64 r, .int .i64 h]).alloc (.cells #[.int .i64 0, .int .i64 0] 51)).next C
  have R0 := (Blk.new (w.alloc (.cells #[.int .i64 r, .int .i64 h] 51)) 51 #[.int .i64 0, .int .i64 0]).next C
  rw [World.size_alloc] at R0
  have B1 : Below w.heap.size w w1 := bel_tr (by go_grown) C
  have K1 := K0.alloc (.cells (madeCells #[.int .i64 0] cs.length) 3)
  have R1 := R0.alloc (.cells (madeCells #[.int .i64 0] cs.length) 3)
  have hM := OwnI.made B1 cs.length (by omega)
  have hB2 := B1.alloc B1.size (.cells (madeCells #[.int .i64 0] cs.length) 3)
  obtain ⟨g, hg⟩ : ∃ g, w1.heap.size = g := ⟨_, rfl⟩
  rw [hg] at hM
  have hgw : w.heap.size + 1 < g := by rw [← hg]; exact R0.lt
  rw [show List.replicate cs.length (0 : Int) = mixZ (givesL r h (hrs cs ws)) 0 from by rw [mix_none (fun i hi hl => by omega), HLL.out]] at hM
  have HM := Lib.hid (And.intro hM (And.intro K1 (And.intro R1 hB2)))
  clear hM hB2 C B1 K0 K1 R0 R1
  go_wp2_with fail
  clear hmk
  go_loopw [24] (fun i wr => ∃ k : Nat, k ≤ cs.length ∧ i = .int .i64 k ∧ Hid (OwnI wr w.heap.size (.slice (some ⟨g, 0, none⟩) cs.length cs.length) (mixZ (givesL r h (hrs cs ws)) k) ∧ Blk wr w.heap.size 51 #[.int .i64 r, .int .i64 (endB r h ((hrs cs ws).take k))] ∧ Blk wr (w.heap.size + 1) 51 #[.int .i64 0, .int .i64 0] ∧ Below w.heap.size w wr)) (fun i _ => cs.length - (intOf i).toNat)
  case atStart => exact ⟨0, Nat.zero_le _, rfl, HM.out⟩
  case round =>
    clear HM hg
    obtain ⟨k, hk, rfl, HR⟩ := hrel
    by_cases hlt : k < cs.length
    · have hl : ws.length = cs.length := HV.out.2.2
      obtain ⟨ga, oa, gb, ob, rfl, rfl, x0, x1, x2, x3⟩ := two_at HA.out HBB.out HR.out.2.2.2 hlt (by omega)
      obtain ⟨s0, s1, s2, s3, s4⟩ := blk_two HR.out.2.1
      have eb2 := end_bd _ h (hok_take (hok_hrs HV.out.1 HV.out.2.1) k) HH.out.1 HH.out.2
      have ec := (vfl_is HV.out.1).2 _ (getD_mem hlt)
      have ew := (vfl_is HV.out.2.1).2 _ (getD_mem (k := k) (zs := ws) (by omega))
      have et := end_take hl hlt r h
      have hms := mix_set (zs := givesL r h (hrs cs ws)) (k := k) (by rw [HLL.out]; exact hlt)
      rw [(gives_at hl hlt r h).1] at hms
      have CS := fun W => iStep r (endB r h ((hrs cs ws).take k)) (cs.getD k 0) (ws.getD k 0) W
      have hst := stV_yes (stB_yes (vb_iff.2 ⟨r0, r1, eb2.1, eb2.2⟩) ec ew)
      simp only [hst] at CS
      clear hst
      have k0 : (0 : Int) ≤ (k : Int) := by omega
      have k1 : (k : Int) < (cs.length : Int) := by omega
      have k2 : (k : Int) < (ws.length : Int) := by omega
      generalize endB r h ((hrs cs ws).take k) = h_ at x0 x1 s0 s1 eb2 ec ew et hms CS HR
      generalize cs.getD k 0 = c_ at x0 ec et hms CS
      generalize ws.getD k 0 = q_ at x1 ew et hms CS
      generalize stepH r h_ c_ q_ = s_ at et CS
      generalize giveH h_ c_ q_ = g_ at hms CS
      generalize spillH r h_ c_ q_ = gg_ at hms CS
      have HET := Lib.hid et
      have HMS := Lib.hid hms
      clear et hms hl eb2 ec ew s2 s3
      go_wp2_with fail
      have MK : ∀ W : World, Below wr.heap.size wr W → (W.cell? ⟨w.heap.size, 0, none⟩ = some (.int .i64 r) ∧ W.cell? ⟨w.heap.size, 1, none⟩ = some (.int .i64 h_) ∧ W.cell? ⟨ga, oa + k, none⟩ = some (.int .i64 c_) ∧ W.cell? ⟨gb, ob + k, none⟩ = some (.int .i64 q_)) ∧ Below wr.heap.size wr W := fun W hW => ⟨⟨(hW.cell (p := ⟨w.heap.size, 0, none⟩) (s4)).trans s0, (hW.cell (p := ⟨w.heap.size, 1, none⟩) (s4)).trans s1, (hW.cell (p := ⟨ga, oa + k, none⟩) (x2)).trans x0, (hW.cell (p := ⟨gb, ob + k, none⟩) (x3)).trans x1⟩, hW⟩
      have HMK := Lib.hid MK
      clear MK
      refine wp_region_held_drew (S := (fun w' => (w'.cell? ⟨w.heap.size, 0, none⟩ = some (.int .i64 r) ∧ w'.cell? ⟨w.heap.size, 1, none⟩ = some (.int .i64 h_) ∧ w'.cell? ⟨ga, oa + k, none⟩ = some (.int .i64 c_) ∧ w'.cell? ⟨gb, ob + k, none⟩ = some (.int .i64 q_)) ∧ Below wr.heap.size wr w')) (by kernel_rfl) ?_ (fun hHeld => ?_)
      · exact ⟨⟨s0, s1, x0, x1⟩, (Below.refl _ _).drew⟩
      refine wpAnyH_take (i := 0) (oi := ?oot1) (v := ?vvt1) ?hit1 (by kernel_rfl) ?h3t1 ?h4t1 ?h5t1 ?h6t1 (by assumption) ?h8t1
      case hit1 => (simp only [List.getElem?_toArray, List.getElem?_cons_succ, List.getElem?_cons_zero]; rfl)
      case h3t1 => kernel_rfl
      case h4t1 => kernel_rfl
      case h6t1 => (refine Or.inl ⟨by rfl, ?_⟩; intro w hSw; (try dsimp only at hSw); (go_simp <;> with_reducible rfl))
      case h5t1 => exact fun _ _ _ h => h
      try simp only [Act.put, List.setIfInBounds_toArray, List.set_cons_zero, List.set_cons_succ]
      refine wpAnyH_take (i := 1) (oi := ?oot2) (v := ?vvt2) ?hit2 (by kernel_rfl) ?h3t2 ?h4t2 ?h5t2 ?h6t2 (by assumption) ?h8t2
      case hit2 => (simp only [List.getElem?_toArray, List.getElem?_cons_succ, List.getElem?_cons_zero]; rfl)
      case h3t2 => kernel_rfl
      case h4t2 => kernel_rfl
      case h6t2 => (refine Or.inl ⟨by rfl, ?_⟩; intro w hSw; (try dsimp only at hSw); (go_simp <;> with_reducible rfl))
      case h5t2 => exact fun _ _ _ h => h
      try simp only [Act.put, List.setIfInBounds_toArray, List.set_cons_zero, List.set_cons_succ]
      refine wpAnyH_take (i := 2) (oi := ?oot3) (v := ?vvt3) ?hit3 (by kernel_rfl) ?h3t3 ?h4t3 ?h5t3 ?h6t3 (by assumption) ?h8t3
      case hit3 => (simp only [List.getElem?_toArray, List.getElem?_cons_succ, List.getElem?_cons_zero]; rfl)
      case h3t3 => kernel_rfl
      case h4t3 => kernel_rfl
      case h6t3 => (refine Or.inl ⟨by rfl, ?_⟩; intro w hSw; (try dsimp only at hSw); (go_simp <;> with_reducible rfl))
      case h5t3 => exact fun _ _ _ h => h
      try simp only [Act.put, List.setIfInBounds_toArray, List.set_cons_zero, List.set_cons_succ]
      refine wpAnyH_take (i := 3) (oi := ?oot4) (v := ?vvt4) ?hit4 (by kernel_rfl) ?h3t4 ?h4t4 ?h5t4 ?h6t4 (by assumption) ?h8t4
      case hit4 => (simp only [List.getElem?_toArray, List.getElem?_cons_succ, List.getElem?_cons_zero]; rfl)
      case h3t4 => kernel_rfl
      case h4t4 => kernel_rfl
      case h6t4 => (refine Or.inl ⟨by rfl, ?_⟩; intro w hSw; (try dsimp only at hSw); (go_simp <;> with_reducible rfl))
      case h5t4 => exact fun _ _ _ h => h
      try simp only [Act.put, List.setIfInBounds_toArray, List.set_cons_zero, List.set_cons_succ]
      refine wpAnyH_take (i := 4) (oi := ?oot5) (v := ?vvt5) ?hit5 (by kernel_rfl) ?h3t5 ?h4t5 ?h5t5 ?h6t5 (by assumption) ?h8t5
      case hit5 => (simp only [List.getElem?_toArray, List.getElem?_cons_succ, List.getElem?_cons_zero]; rfl)
      case h3t5 => kernel_rfl
      case h4t5 => kernel_rfl
      case h6t5 => (refine Or.inl ⟨by rfl, ?_⟩; intro w hSw; (try dsimp only at hSw); (go_simp <;> with_reducible rfl))
      case h5t5 => exact fun _ _ _ h => h
      try simp only [Act.put, List.setIfInBounds_toArray, List.set_cons_zero, List.set_cons_succ]
      refine wpAnyH_take (i := 5) (oi := ?oot6) (v := ?vvt6) ?hit6 (by kernel_rfl) ?h3t6 ?h4t6 ?h5t6 ?h6t6 (by assumption) ?h8t6
      case hit6 => (simp only [List.getElem?_toArray, List.getElem?_cons_succ, List.getElem?_cons_zero]; rfl)
      case h3t6 => kernel_rfl
      case h4t6 => kernel_rfl
      case h6t6 => (refine Or.inl ⟨by rfl, ?_⟩; intro w hSw; (try dsimp only at hSw); (go_simp <;> with_reducible rfl))
      case h5t6 => exact fun _ _ _ h => h
      try simp only [Act.put, List.setIfInBounds_toArray, List.set_cons_zero, List.set_cons_succ]
      refine wpAnyH_take (i := 6) (oi := ?oot7) (v := ?vvt7) ?hit7 (by kernel_rfl) ?h3t7 ?h4t7 ?h5t7 ?h6t7 (by assumption) ?h8t7
      case hit7 => (simp only [List.getElem?_toArray, List.getElem?_cons_succ, List.getElem?_cons_zero]; rfl)
      case h3t7 => kernel_rfl
      case h4t7 => kernel_rfl
      case h6t7 => (refine Or.inl ⟨by rfl, ?_⟩; intro w hSw; (try dsimp only at hSw); (go_simp <;> with_reducible rfl))
      case h5t7 => exact fun _ _ _ h => h
      try simp only [Act.put, List.setIfInBounds_toArray, List.set_cons_zero, List.set_cons_succ]
      refine wpAnyH_take (i := 7) (oi := ?oot8) (v := ?vvt8) ?hit8 (by kernel_rfl) ?h3t8 ?h4t8 ?h5t8 ?h6t8 (by assumption) ?h8t8
      case hit8 => (simp only [List.getElem?_toArray, List.getElem?_cons_succ, List.getElem?_cons_zero]; rfl)
      case h3t8 => kernel_rfl
      case h4t8 => kernel_rfl
      case h6t8 => (refine Or.inl ⟨by rfl, ?_⟩; intro w hSw; (try dsimp only at hSw); (go_simp <;> with_reducible rfl))
      case h5t8 => exact fun _ _ _ h => h
      try simp only [Act.put, List.setIfInBounds_toArray, List.set_cons_zero, List.set_cons_succ]
      refine wpAnyH_take (i := 8) (oi := ?oot9) (v := ?vvt9) ?hit9 (by kernel_rfl) ?h3t9 ?h4t9 ?h5t9 ?h6t9 (by assumption) ?h8t9
      case hit9 => (simp only [List.getElem?_toArray, List.getElem?_cons_succ, List.getElem?_cons_zero]; rfl)
      case h3t9 => kernel_rfl
      case h4t9 => kernel_rfl
      case h6t9 => (refine Or.inl ⟨by rfl, ?_⟩; intro w hSw; (try dsimp only at hSw); (go_simp <;> with_reducible rfl))
      case h5t9 => exact fun _ _ _ h => h
      try simp only [Act.put, List.setIfInBounds_toArray, List.set_cons_zero, List.set_cons_succ]
      refine wpAnyH_ready (rs := [9, 14]) (by kernel_rfl) (by simp) (AllReadyH.cons (o := ?oot10q0) ?hit10q0 (fun K hK => ?hkt10q0) (AllReadyH.cons (o := ?oot10q1) ?hit10q1 (fun K hK => ?hkt10q1) AllReadyH.nil))
      case hit10q0 => (simp only [List.getElem?_toArray, List.getElem?_cons_succ, List.getElem?_cons_zero]; rfl)
      case hit10q1 => (simp only [List.getElem?_toArray, List.getElem?_cons_succ, List.getElem?_cons_zero]; rfl)
      case hkt10q0 =>
        (rw [if_pos (by rfl)]; go_simp; refine (CS _).mono ?_; rintro e wq ⟨rfl, hb⟩; go_wp2_with fail; refine hK.out _ _ (HMK.out _ (bel_tr hHeld.2 hb)) (fun hHeld => ?_); clear hK K)
        try simp only [Act.put, List.setIfInBounds_toArray, List.set_cons_zero, List.set_cons_succ]
        refine wpAnyH_take (i := 10) (oi := ?oot11) (v := ?vvt11) ?hit11 (by kernel_rfl) ?h3t11 ?h4t11 ?h5t11 ?h6t11 (by assumption) ?h8t11
        case hit11 => (simp only [List.getElem?_toArray, List.getElem?_cons_succ, List.getElem?_cons_zero]; rfl)
        case h3t11 => kernel_rfl
        case h4t11 => kernel_rfl
        case h6t11 => (refine Or.inl ⟨by rfl, ?_⟩; intro w hSw; (try dsimp only at hSw); (go_simp <;> with_reducible rfl))
        case h5t11 => exact fun _ _ _ h => h
        try simp only [Act.put, List.setIfInBounds_toArray, List.set_cons_zero, List.set_cons_succ]
        refine wpAnyH_take (i := 11) (oi := ?oot12) (v := ?vvt12) ?hit12 (by kernel_rfl) ?h3t12 ?h4t12 ?h5t12 ?h6t12 (by assumption) ?h8t12
        case hit12 => (simp only [List.getElem?_toArray, List.getElem?_cons_succ, List.getElem?_cons_zero]; rfl)
        case h3t12 => kernel_rfl
        case h4t12 => kernel_rfl
        case h6t12 => (refine Or.inl ⟨by rfl, ?_⟩; intro w hSw; (try dsimp only at hSw); (go_simp <;> with_reducible rfl))
        case h5t12 => exact fun _ _ _ h => h
        try simp only [Act.put, List.setIfInBounds_toArray, List.set_cons_zero, List.set_cons_succ]
        refine wpAnyH_take (i := 12) (oi := ?oot13) (v := ?vvt13) ?hit13 (by kernel_rfl) ?h3t13 ?h4t13 ?h5t13 ?h6t13 (by assumption) ?h8t13
        case hit13 => (simp only [List.getElem?_toArray, List.getElem?_cons_succ, List.getElem?_cons_zero]; rfl)
        case h3t13 => kernel_rfl
        case h4t13 => kernel_rfl
        case h6t13 => (refine Or.inl ⟨by rfl, ?_⟩; intro w hSw; (try dsimp only at hSw); (go_simp <;> with_reducible rfl))
        case h5t13 => exact fun _ _ _ h => h
        try simp only [Act.put, List.setIfInBounds_toArray, List.set_cons_zero, List.set_cons_succ]
        refine wpAnyH_take (i := 13) (oi := ?oot14) (v := ?vvt14) ?hit14 (by kernel_rfl) ?h3t14 ?h4t14 ?h5t14 ?h6t14 (by assumption) ?h8t14
        case hit14 => (simp only [List.getElem?_toArray, List.getElem?_cons_succ, List.getElem?_cons_zero]; rfl)
        case h3t14 => kernel_rfl
        case h4t14 => kernel_rfl
        case h6t14 => (refine Or.inl ⟨by rfl, ?_⟩; intro w hSw; (try dsimp only at hSw); (go_simp <;> with_reducible rfl))
        case h5t14 => exact fun _ _ _ h => h
        try simp only [Act.put, List.setIfInBounds_toArray, List.set_cons_zero, List.set_cons_succ]
        refine wpAnyH_ready (rs := [14]) (by kernel_rfl) (by simp) (AllReadyH.cons (o := ?oot15) ?hit15 (fun K hK => ?hkt15) AllReadyH.nil)
        rotate_left
        case hit15 => (simp only [List.getElem?_toArray, List.getElem?_cons_succ, List.getElem?_cons_zero]; rfl)
        (rw [if_pos (by rfl)]; go_simp; have F7 := Lib.hid (Blk.new wq 51 #[.int .i64 0, .int .i64 0]); have E7 := HMK.out _ (hHeld.2.alloc hHeld.2.size (.cells #[.int .i64 0, .int .i64 0] 51)); have L6 := hHeld.2.size; generalize wq.alloc (.cells #[.int .i64 0, .int .i64 0] 51) = W7 at F7 E7 ⊢; generalize wq.heap.size = gf at F7 L6 ⊢; refine hK.out _ _ (E7) (fun hHeld => ?_); clear hK K)
        try simp only [Act.put, List.setIfInBounds_toArray, List.set_cons_zero, List.set_cons_succ]
        refine wpAnyH_ready (rs := [15]) (by kernel_rfl) (by simp) (AllReadyH.cons (o := ?oot16) ?hit16 (fun K hK => ?hkt16) AllReadyH.nil)
        rotate_left
        case hit16 => (simp only [List.getElem?_toArray, List.getElem?_cons_succ, List.getElem?_cons_zero]; rfl)
        (rw [if_pos (by rfl)]; have fc0 := F7.out.cell 0; have ff0 := F7.out.frozen 0; have fc1 := F7.out.cell 1; have ff1 := F7.out.frozen 1; simp only [List.getElem?_toArray, List.getElem?_cons_zero, List.getElem?_cons_succ] at fc0 fc1; go_simp; have F8 : Hid (Blk _ gf 51 #[.int .i64 r, .int .i64 s_]) := Lib.hid (((F7.out).set_ 0 (.int .i64 r)).set_ 1 (.int .i64 s_)); have E8 := HMK.out _ (((hHeld.2).setCell (p := ⟨gf, 0, none⟩) L6 (.int .i64 r)).setCell (p := ⟨gf, 1, none⟩) L6 (.int .i64 s_)); generalize World.setCell (World.setCell (_) ⟨gf, 0, none⟩ (.int .i64 r)) ⟨gf, 1, none⟩ (.int .i64 s_) = W8 at F8 E8 ⊢; clear fc0 ff0 fc1 ff1 F7; refine hK.out _ _ (E8) (fun hHeld => ?_); clear hK K)
        try simp only [Act.put, List.setIfInBounds_toArray, List.set_cons_zero, List.set_cons_succ]
        refine wpAnyH_take (i := 16) (oi := ?oot17) (v := ?vvt17) ?hit17 (by kernel_rfl) ?h3t17 ?h4t17 ?h5t17 ?h6t17 (by assumption) ?h8t17
        case hit17 => (simp only [List.getElem?_toArray, List.getElem?_cons_succ, List.getElem?_cons_zero]; rfl)
        case h3t17 => kernel_rfl
        case h4t17 => kernel_rfl
        case h6t17 => (refine Or.inl ⟨by rfl, ?_⟩; intro w hSw; (try dsimp only at hSw); (go_simp <;> with_reducible rfl))
        case h5t17 => exact fun _ _ _ h => h
        try simp only [Act.put, List.setIfInBounds_toArray, List.set_cons_zero, List.set_cons_succ]
        refine wpAnyH_take (i := 17) (oi := ?oot18) (v := ?vvt18) ?hit18 (by kernel_rfl) ?h3t18 ?h4t18 ?h5t18 ?h6t18 (by assumption) ?h8t18
        case hit18 => (simp only [List.getElem?_toArray, List.getElem?_cons_succ, List.getElem?_cons_zero]; rfl)
        case h3t18 => kernel_rfl
        case h4t18 => kernel_rfl
        case h6t18 => (refine Or.inl ⟨by rfl, ?_⟩; intro w hSw; (try dsimp only at hSw); (go_simp <;> with_reducible rfl))
        case h5t18 => exact fun _ _ _ h => h
        try simp only [Act.put, List.setIfInBounds_toArray, List.set_cons_zero, List.set_cons_succ]
        refine wpAnyH_done (by kernel_rfl) ?_ _
        have hE8 := E8.2
        have G8 := F8.out
        obtain ⟨O8, B8, R8, BB⟩ := HR.out
        have g9 := O8.blk.2
        clear E8 F8 HMK hHeld HR
        replace O8 := O8.of_block hE8
        replace B8 := B8.next hE8
        replace R8 := R8.next hE8
        have BB8 := bel_tr BB hE8
        clear hE8 BB
        have hd := O8.cell (j := k) (by rw [mix_len, HLL.out]; exact hlt)
        have hf2 := O8.frozen k
        have O9 := O8.set_ k g_
        rw [HMS.out] at O9
        have B9 := B8.far (p := ⟨g, k, none⟩) (by show w.heap.size ≠ g; omega) (.int .i64 g_)
        have G9 := G8.far (p := ⟨g, k, none⟩) (by show gf ≠ g; omega) (.int .i64 g_)
        have R9 := R8.far (p := ⟨g, k, none⟩) (by show w.heap.size + 1 ≠ g; omega) (.int .i64 g_)
        have BB9 := BB8.setCell (p := ⟨g, k, none⟩) (by show w.heap.size ≤ g; omega) (.int .i64 g_)
        generalize (mixZ (givesL r h (hrs cs ws)) k).getD k 0 = y_ at hd
        obtain ⟨d0, d1, d2, d3, d4⟩ := blk_two B9
        obtain ⟨f0, f1, f2, f3, f4⟩ := blk_two G9
        have O10 := (O9.far (g := w.heap.size) (j := 0) (by show some g ≠ some w.heap.size; intro c; injection c with c; omega) (.int .i64 r)).far (g := w.heap.size) (j := 1) (by show some g ≠ some w.heap.size; intro c; injection c with c; omega) (.int .i64 s_)
        have B10 := B9.two (.int .i64 r) (.int .i64 s_)
        have BB10 := (BB9.setCell (p := ⟨w.heap.size, 0, none⟩) (Nat.le_refl _) (.int .i64 r)).setCell (p := ⟨w.heap.size, 1, none⟩) (Nat.le_refl _) (.int .i64 s_)
        have R10 := (R9.far (p := ⟨w.heap.size, 0, none⟩) (by show w.heap.size + 1 ≠ w.heap.size; omega) (.int .i64 r)).far (p := ⟨w.heap.size, 1, none⟩) (by show w.heap.size + 1 ≠ w.heap.size; omega) (.int .i64 s_)
        have HS := Lib.hid (And.intro O10 (And.intro B10 (And.intro R10 BB10)))
        clear O8 B8 G8 BB8 R8 O9 O10 B9 B10 BB9 BB10 G9 R9 R10
        go_wp2_with fail
        go_roundw
        case rel => exact ⟨k + 1, by omega, by go_num, by rw [HET.out]; exact HS.out⟩
        case measure => simp [intOf]; omega
      case hkt10q1 =>
        (rw [if_pos (by rfl)]; go_simp; have F7 : Hid (Blk (wr.alloc (.cells #[.int .i64 0, .int .i64 0] 51)).drew wr.heap.size 51 #[.int .i64 0, .int .i64 0]) := Blk.new wr 51 #[.int .i64 0, .int .i64 0]; have E7 := HMK.out (wr.alloc (.cells #[.int .i64 0, .int .i64 0] 51)).drew ((Below.refl _ wr).alloc (Nat.le_refl _) (.cells #[.int .i64 0, .int .i64 0] 51)).drew; have L6 : wr.heap.size ≤ wr.heap.size := Nat.le_refl _; generalize (wr.alloc (.cells #[.int .i64 0, .int .i64 0] 51)).drew = W7 at F7 E7 ⊢; obtain ⟨gf, hgf⟩ : ∃ gf, gf = wr.heap.size := ⟨_, rfl⟩; rw [← hgf] at F7 ⊢; replace L6 : wr.heap.size ≤ gf := (by omega); clear hgf; refine hK.out _ _ (E7) (fun hHeld => ?_); clear hK K)
        try simp only [Act.put, List.setIfInBounds_toArray, List.set_cons_zero, List.set_cons_succ]
        refine wpAnyH_ready (rs := [9]) (by kernel_rfl) (by simp) (AllReadyH.cons (o := ?oot20) ?hit20 (fun K hK => ?hkt20) AllReadyH.nil)
        rotate_left
        case hit20 => (simp only [List.getElem?_toArray, List.getElem?_cons_succ, List.getElem?_cons_zero]; rfl)
        (rw [if_pos (by rfl)]; go_simp; refine (CS _).mono ?_; rintro e wq ⟨rfl, hb⟩; replace F7 := Lib.hid (F7.out.next hb); go_wp2_with fail; refine hK.out _ _ (HMK.out _ (bel_tr hHeld.2 hb)) (fun hHeld => ?_); clear hK K)
        try simp only [Act.put, List.setIfInBounds_toArray, List.set_cons_zero, List.set_cons_succ]
        refine wpAnyH_take (i := 10) (oi := ?oot21) (v := ?vvt21) ?hit21 (by kernel_rfl) ?h3t21 ?h4t21 ?h5t21 ?h6t21 (by assumption) ?h8t21
        case hit21 => (simp only [List.getElem?_toArray, List.getElem?_cons_succ, List.getElem?_cons_zero]; rfl)
        case h3t21 => kernel_rfl
        case h4t21 => kernel_rfl
        case h6t21 => (refine Or.inl ⟨by rfl, ?_⟩; intro w hSw; (try dsimp only at hSw); (go_simp <;> with_reducible rfl))
        case h5t21 => exact fun _ _ _ h => h
        try simp only [Act.put, List.setIfInBounds_toArray, List.set_cons_zero, List.set_cons_succ]
        refine wpAnyH_take (i := 11) (oi := ?oot22) (v := ?vvt22) ?hit22 (by kernel_rfl) ?h3t22 ?h4t22 ?h5t22 ?h6t22 (by assumption) ?h8t22
        case hit22 => (simp only [List.getElem?_toArray, List.getElem?_cons_succ, List.getElem?_cons_zero]; rfl)
        case h3t22 => kernel_rfl
        case h4t22 => kernel_rfl
        case h6t22 => (refine Or.inl ⟨by rfl, ?_⟩; intro w hSw; (try dsimp only at hSw); (go_simp <;> with_reducible rfl))
        case h5t22 => exact fun _ _ _ h => h
        try simp only [Act.put, List.setIfInBounds_toArray, List.set_cons_zero, List.set_cons_succ]
        refine wpAnyH_take (i := 12) (oi := ?oot23) (v := ?vvt23) ?hit23 (by kernel_rfl) ?h3t23 ?h4t23 ?h5t23 ?h6t23 (by assumption) ?h8t23
        case hit23 => (simp only [List.getElem?_toArray, List.getElem?_cons_succ, List.getElem?_cons_zero]; rfl)
        case h3t23 => kernel_rfl
        case h4t23 => kernel_rfl
        case h6t23 => (refine Or.inl ⟨by rfl, ?_⟩; intro w hSw; (try dsimp only at hSw); (go_simp <;> with_reducible rfl))
        case h5t23 => exact fun _ _ _ h => h
        try simp only [Act.put, List.setIfInBounds_toArray, List.set_cons_zero, List.set_cons_succ]
        refine wpAnyH_take (i := 13) (oi := ?oot24) (v := ?vvt24) ?hit24 (by kernel_rfl) ?h3t24 ?h4t24 ?h5t24 ?h6t24 (by assumption) ?h8t24
        case hit24 => (simp only [List.getElem?_toArray, List.getElem?_cons_succ, List.getElem?_cons_zero]; rfl)
        case h3t24 => kernel_rfl
        case h4t24 => kernel_rfl
        case h6t24 => (refine Or.inl ⟨by rfl, ?_⟩; intro w hSw; (try dsimp only at hSw); (go_simp <;> with_reducible rfl))
        case h5t24 => exact fun _ _ _ h => h
        try simp only [Act.put, List.setIfInBounds_toArray, List.set_cons_zero, List.set_cons_succ]
        refine wpAnyH_ready (rs := [15]) (by kernel_rfl) (by simp) (AllReadyH.cons (o := ?oot25) ?hit25 (fun K hK => ?hkt25) AllReadyH.nil)
        rotate_left
        case hit25 => (simp only [List.getElem?_toArray, List.getElem?_cons_succ, List.getElem?_cons_zero]; rfl)
        (rw [if_pos (by rfl)]; have fc0 := F7.out.cell 0; have ff0 := F7.out.frozen 0; have fc1 := F7.out.cell 1; have ff1 := F7.out.frozen 1; simp only [List.getElem?_toArray, List.getElem?_cons_zero, List.getElem?_cons_succ] at fc0 fc1; go_simp; have F8 : Hid (Blk _ gf 51 #[.int .i64 r, .int .i64 s_]) := Lib.hid (((F7.out).set_ 0 (.int .i64 r)).set_ 1 (.int .i64 s_)); have E8 := HMK.out _ (((hHeld.2).setCell (p := ⟨gf, 0, none⟩) L6 (.int .i64 r)).setCell (p := ⟨gf, 1, none⟩) L6 (.int .i64 s_)); generalize World.setCell (World.setCell (_) ⟨gf, 0, none⟩ (.int .i64 r)) ⟨gf, 1, none⟩ (.int .i64 s_) = W8 at F8 E8 ⊢; clear fc0 ff0 fc1 ff1 F7; refine hK.out _ _ (E8) (fun hHeld => ?_); clear hK K)
        try simp only [Act.put, List.setIfInBounds_toArray, List.set_cons_zero, List.set_cons_succ]
        refine wpAnyH_take (i := 16) (oi := ?oot26) (v := ?vvt26) ?hit26 (by kernel_rfl) ?h3t26 ?h4t26 ?h5t26 ?h6t26 (by assumption) ?h8t26
        case hit26 => (simp only [List.getElem?_toArray, List.getElem?_cons_succ, List.getElem?_cons_zero]; rfl)
        case h3t26 => kernel_rfl
        case h4t26 => kernel_rfl
        case h6t26 => (refine Or.inl ⟨by rfl, ?_⟩; intro w hSw; (try dsimp only at hSw); (go_simp <;> with_reducible rfl))
        case h5t26 => exact fun _ _ _ h => h
        try simp only [Act.put, List.setIfInBounds_toArray, List.set_cons_zero, List.set_cons_succ]
        refine wpAnyH_take (i := 17) (oi := ?oot27) (v := ?vvt27) ?hit27 (by kernel_rfl) ?h3t27 ?h4t27 ?h5t27 ?h6t27 (by assumption) ?h8t27
        case hit27 => (simp only [List.getElem?_toArray, List.getElem?_cons_succ, List.getElem?_cons_zero]; rfl)
        case h3t27 => kernel_rfl
        case h4t27 => kernel_rfl
        case h6t27 => (refine Or.inl ⟨by rfl, ?_⟩; intro w hSw; (try dsimp only at hSw); (go_simp <;> with_reducible rfl))
        case h5t27 => exact fun _ _ _ h => h
        try simp only [Act.put, List.setIfInBounds_toArray, List.set_cons_zero, List.set_cons_succ]
        refine wpAnyH_done (by kernel_rfl) ?_ _
        have hE8 := E8.2
        have G8 := F8.out
        obtain ⟨O8, B8, R8, BB⟩ := HR.out
        have g9 := O8.blk.2
        clear E8 F8 HMK hHeld HR
        replace O8 := O8.of_block hE8
        replace B8 := B8.next hE8
        replace R8 := R8.next hE8
        have BB8 := bel_tr BB hE8
        clear hE8 BB
        have hd := O8.cell (j := k) (by rw [mix_len, HLL.out]; exact hlt)
        have hf2 := O8.frozen k
        have O9 := O8.set_ k g_
        rw [HMS.out] at O9
        have B9 := B8.far (p := ⟨g, k, none⟩) (by show w.heap.size ≠ g; omega) (.int .i64 g_)
        have G9 := G8.far (p := ⟨g, k, none⟩) (by show gf ≠ g; omega) (.int .i64 g_)
        have R9 := R8.far (p := ⟨g, k, none⟩) (by show w.heap.size + 1 ≠ g; omega) (.int .i64 g_)
        have BB9 := BB8.setCell (p := ⟨g, k, none⟩) (by show w.heap.size ≤ g; omega) (.int .i64 g_)
        generalize (mixZ (givesL r h (hrs cs ws)) k).getD k 0 = y_ at hd
        obtain ⟨d0, d1, d2, d3, d4⟩ := blk_two B9
        obtain ⟨f0, f1, f2, f3, f4⟩ := blk_two G9
        have O10 := (O9.far (g := w.heap.size) (j := 0) (by show some g ≠ some w.heap.size; intro c; injection c with c; omega) (.int .i64 r)).far (g := w.heap.size) (j := 1) (by show some g ≠ some w.heap.size; intro c; injection c with c; omega) (.int .i64 s_)
        have B10 := B9.two (.int .i64 r) (.int .i64 s_)
        have BB10 := (BB9.setCell (p := ⟨w.heap.size, 0, none⟩) (Nat.le_refl _) (.int .i64 r)).setCell (p := ⟨w.heap.size, 1, none⟩) (Nat.le_refl _) (.int .i64 s_)
        have R10 := (R9.far (p := ⟨w.heap.size, 0, none⟩) (by show w.heap.size + 1 ≠ w.heap.size; omega) (.int .i64 r)).far (p := ⟨w.heap.size, 1, none⟩) (by show w.heap.size + 1 ≠ w.heap.size; omega) (.int .i64 s_)
        have HS := Lib.hid (And.intro O10 (And.intro B10 (And.intro R10 BB10)))
        clear O8 B8 G8 BB8 R8 O9 O10 B9 B10 BB9 BB10 G9 R9 R10
        go_wp2_with fail
        go_roundw
        case rel => exact ⟨k + 1, by omega, by go_num, by rw [HET.out]; exact HS.out⟩
        case measure => simp [intOf]; omega
    · obtain rfl : k = cs.length := by omega
      rw [mix_all (Nat.le_of_eq HLL.out), hrs_all HV.out.2.2] at HR
      have R2 := HR.out.2.2.1
      obtain ⟨s0, s1, s2, s3, s4⟩ := blk_two HR.out.2.1
      obtain ⟨t0, t1, t2, t3, t4⟩ := blk_two R2
      have O3 := (HR.out.1.far (g := w.heap.size + 1) (j := 0) (by show some g ≠ some (w.heap.size + 1); intro c; injection c with c; omega) (.int .i64 r)).far (g := w.heap.size + 1) (j := 1) (by show some g ≠ some (w.heap.size + 1); intro c; injection c with c; omega) (.int .i64 (endB r h (hrs cs ws)))
      have BB3 := (HR.out.2.2.2.setCell (p := ⟨w.heap.size + 1, 0, none⟩) (by show w.heap.size ≤ w.heap.size + 1; omega) (.int .i64 r)).setCell (p := ⟨w.heap.size + 1, 1, none⟩) (by show w.heap.size ≤ w.heap.size + 1; omega) (.int .i64 (endB r h (hrs cs ws)))
      obtain ⟨f0, f1, _, _, _⟩ := blk_two (R2.two (.int .i64 r) (.int .i64 (endB r h (hrs cs ws))))
      have HO := Lib.hid (And.intro O3 BB3)
      have HF := Lib.hid (And.intro f0 f1)
      clear O3 BB3 f0 f1 R2 HR
      generalize endB r h (hrs cs ws) = e_ at *
      go_wp2_with fail
      go_region
      all_goals (
        go_wp2_with fail
        obtain ⟨f0, f1⟩ := HF.out
        refine bodyPost_ret (v := .tuple #[.slice (some ⟨g, 0, none⟩) cs.length cs.length, .agg #[.int .i64 r, .int .i64 e_]]) (by simp [results, Try.results63, go_sem, f0, f1]) rfl ⟨_, rfl, HO.out.1, below_drewN HO.out.2 1⟩)
end Go.Proofs.Ytigapnbpgbfbhac
