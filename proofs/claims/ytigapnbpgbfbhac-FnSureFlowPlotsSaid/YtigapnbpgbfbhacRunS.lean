/- Days of a basin, by the model. Condition: at most 1048576 numbers. -/
import Derived.Test.YtigapnbpgbfbhacBasS
import Derived.Test.YtigapnbpgbfbhacRunI
import Derived.Deep.DeepCutAuto
namespace Go.Proofs.Ytigapnbpgbfbhac
open Go.RowKit
set_option linter.unusedSimpArgs false
set_option linter.unusedVariables false
def DayS (w : World) (r h : Int) (cs ws : List Int) (e : Ending) (w' : World) : Prop := ∃ v1 v2, e = .returned (.tuple #[v1, v2, .agg #[.int .i64 r, .int .i64 (endB r h (hrs cs ws))]]) ∧ OwnI w' w.heap.size v1 (givesL r h (hrs cs ws)) ∧ OwnI w' w.heap.size v2 (spillsL r h (hrs cs ws)) ∧ Below w.heap.size w w'
set_option maxRecDepth 100000 in
set_option maxHeartbeats 8000000 in
/-- spec.day -/
theorem sday (r h : Int) (a b : Option Addr) (ca cb : Nat) (cs ws : List Int) (w : World) (ha : IsInts w a cs) (hb : IsInts w b ws) (hc : cs.length ≤ 1048576) (hw : ws.length ≤ 1048576) (hr : runBa r h cs ws = true) :
    Calls Try.prog 67 #[.agg #[.int .i64 r, .int .i64 h], .slice a cs.length ca, .slice b ws.length cb] w (DayS w r h cs ws) := by
  obtain ⟨⟨r0, r1, r2, r3⟩, v1, v2, hl⟩ := run_is hr
  have l200 := (vfl_is v1).1
  have HV := Lib.hid (And.intro v1 (And.intro v2 hl))
  have HA := Lib.hid ha
  have HBB := Lib.hid hb
  have HH := Lib.hid (And.intro r2 r3)
  have K0 := (((Blk.new w 51 #[.int .i64 r, .int .i64 h]).alloc (.cells #[.int .i64 0, .int .i64 0] 51)).alloc (.cells #[] 3)).alloc (.cells #[] 3)
  obtain ⟨W2, hW2⟩ : ∃ W2, (w.alloc (.cells #[.int .i64 r, .int .i64 h] 51)).alloc (.cells #[.int .i64 0, .int .i64 0] 51) = W2 := ⟨_, rfl⟩
  have R0 := Blk.new (w.alloc (.cells #[.int .i64 r, .int .i64 h] 51)) 51 #[.int .i64 0, .int .i64 0]
  have sz2 : W2.heap.size = w.heap.size + 2 := by rw [← hW2]; simp
  have BB0 : Below w.heap.size w W2 := by rw [← hW2]; exact ((Below.refl _ w).alloc (Nat.le_refl _) _).alloc (by simp) _
  rw [World.size_alloc, hW2] at R0
  rw [hW2] at K0
  have R2 := (R0.alloc (.cells #[] 3)).alloc (.cells #[] 3)
  have N1 := (OwnI.new (Below.refl W2.heap.size W2)).alloc (.cells #[] 3)
  have N2 := own_lower (OwnI.new (Below.refl (W2.alloc (.cells #[] 3)).heap.size (W2.alloc (.cells #[] 3)))) (show W2.heap.size ≤ _ by rw [World.size_alloc]; omega)
  have BB2 := (BB0.alloc BB0.size (.cells #[] 3)).alloc (by rw [World.size_alloc]; omega) (.cells #[] 3)
  rw [World.size_alloc] at N2
  rw [sz2] at N1 N2
  have HM := Lib.hid (And.intro N1 (And.intro N2 (And.intro K0 (And.intro R2 BB2))))
  clear hr ha hb v1 v2 hl K0 R0 BB0 N1 N2 R2 BB2
  go_enter Try.func67, Try.ntmps67
  go_wp2_with fail
  go_loopw [9, 10, 11] (fun va vb i wr => ∃ k : Nat, k ≤ cs.length ∧ i = .int .i64 k ∧ Hid (OwnI wr (w.heap.size + 2) va (givesL r h ((hrs cs ws).take k)) ∧ OwnI wr (w.heap.size + 2) vb (spillsL r h ((hrs cs ws).take k)) ∧ Blk wr w.heap.size 51 #[.int .i64 r, .int .i64 (endB r h ((hrs cs ws).take k))] ∧ Blk wr (w.heap.size + 1) 51 #[.int .i64 0, .int .i64 0] ∧ Below w.heap.size w wr ∧ va.ownBlock ≠ vb.ownBlock ∧ va.ownBlock ≠ none ∧ vb.ownBlock ≠ none)) (fun _ _ i _ => cs.length - (intOf i).toNat)
  case atStart =>
    obtain ⟨a1, a2, a3, a4, a5⟩ := HM.out
    refine ⟨0, Nat.zero_le _, rfl, ?_⟩
    exact ⟨a1, a2, a3, a4, a5, (by simp [Value.ownBlock]), (by simp [Value.ownBlock]), (by simp [Value.ownBlock])⟩
  case round =>
    clear HM hW2 sz2
    obtain ⟨k, hk, rfl, HR⟩ := hrel
    by_cases hlt : k < cs.length
    · have hl : ws.length = cs.length := HV.out.2.2
      obtain ⟨ga, oa, gb, ob, rfl, rfl, x0, x1, x2, x3⟩ := two_at HA.out HBB.out HR.out.2.2.2.2.1 hlt (by omega)
      obtain ⟨s0, s1, s2, s3, s4⟩ := blk_two HR.out.2.2.1
      have eb2 := end_bd _ h (hok_take (hok_hrs HV.out.1 HV.out.2.1) k) HH.out.1 HH.out.2
      have ec := (vfl_is HV.out.1).2 _ (getD_mem hlt)
      have ew := (vfl_is HV.out.2.1).2 _ (getD_mem (k := k) (zs := ws) (by omega))
      have et := end_take hl hlt r h
      have g1 := gives_take hl hlt r h
      have g2 := spills_take hl hlt r h
      have l1 : (givesL r h ((hrs cs ws).take k)).length = k := by rw [gives_len, List.length_take, hrs_len hl]; omega
      have l2 : (spillsL r h ((hrs cs ws).take k)).length = k := by rw [spills_len, List.length_take, hrs_len hl]; omega
      have CS := fun W => sHour r (endB r h ((hrs cs ws).take k)) (cs.getD k 0) (ws.getD k 0) W (vb_iff.2 ⟨r0, r1, eb2.1, eb2.2⟩) ec ew
      have k0 : (0 : Int) ≤ (k : Int) := by omega
      have k1 : (k : Int) < (cs.length : Int) := by omega
      have k2 : (k : Int) < (ws.length : Int) := by omega
      generalize endB r h ((hrs cs ws).take k) = h_ at x0 x1 s0 s1 eb2 ec ew et g1 g2 CS HR
      generalize cs.getD k 0 = c_ at x0 ec et g1 g2 CS
      generalize ws.getD k 0 = q_ at x1 ew et g1 g2 CS
      generalize stepH r h_ c_ q_ = s_ at et CS
      generalize giveH h_ c_ q_ = g_ at g1 CS
      generalize spillH r h_ c_ q_ = p_ at g2 CS
      have HET := Lib.hid et
      have HG1 := Lib.hid g1
      have HG2 := Lib.hid g2
      have HL1 := Lib.hid l1
      have HL2 := Lib.hid l2
      clear et g1 g2 hl eb2 ec ew s2 s3 l1 l2
      go_wp2_with fail
      have MK : ∀ W : World, Below wr.heap.size wr W → (W.cell? ⟨w.heap.size, 0, none⟩ = some (.int .i64 r) ∧ W.cell? ⟨w.heap.size, 1, none⟩ = some (.int .i64 h_) ∧ W.cell? ⟨ga, oa + k, none⟩ = some (.int .i64 c_) ∧ W.cell? ⟨gb, ob + k, none⟩ = some (.int .i64 q_)) ∧ Below wr.heap.size wr W := fun W hW => ⟨⟨(hW.cell (p := ⟨w.heap.size, 0, none⟩) (s4)).trans s0, (hW.cell (p := ⟨w.heap.size, 1, none⟩) (s4)).trans s1, (hW.cell (p := ⟨ga, oa + k, none⟩) (x2)).trans x0, (hW.cell (p := ⟨gb, ob + k, none⟩) (x3)).trans x1⟩, hW⟩
      have HMK := Lib.hid MK
      clear MK
      refine wp_region_held_drew (S := (fun w' => (w'.cell? ⟨w.heap.size, 0, none⟩ = some (.int .i64 r) ∧ w'.cell? ⟨w.heap.size, 1, none⟩ = some (.int .i64 h_) ∧ w'.cell? ⟨ga, oa + k, none⟩ = some (.int .i64 c_) ∧ w'.cell? ⟨gb, ob + k, none⟩ = some (.int .i64 q_)) ∧ Below wr.heap.size wr w')) (by kernel_rfl) ?_ (fun hHeld => ?_)
      · exact ⟨⟨s0, s1, x0, x1⟩, (Below.refl _ _).drew⟩
      refine wpAnyH_take (i := 0) (oi := ?oot1) (v := ?vvt1) ?hit1 (by kernel_rfl) ?h3t1 ?h4t1 ?h5t1 ?h6t1 (by assumption) ?h8t1
      case hit1 => (simp only [List.getElem?_toArray, List.getElem?_cons_succ, List.getElem?_cons_zero]; rfl)
      case h3t1 => kernel_rfl
      case h4t1 => kernel_rfl
      case h6t1 => (refine Or.inl ⟨by rfl, ?_⟩; intro w hSw; (try dsimp only at hSw); (go_simp <;> with_reducible rfl))
      case h5t1 => exact fun _ _ _ h => h
      try simp only [Act.put, List.setIfInBounds_toArray, List.set_cons_zero, List.set_cons_succ]
      refine wpAnyH_take (i := 1) (oi := ?oot2) (v := ?vvt2) ?hit2 (by kernel_rfl) ?h3t2 ?h4t2 ?h5t2 ?h6t2 (by assumption) ?h8t2
      case hit2 => (simp only [List.getElem?_toArray, List.getElem?_cons_succ, List.getElem?_cons_zero]; rfl)
      case h3t2 => kernel_rfl
      case h4t2 => kernel_rfl
      case h6t2 => (refine Or.inl ⟨by rfl, ?_⟩; intro w hSw; (try dsimp only at hSw); (go_simp <;> with_reducible rfl))
      case h5t2 => exact fun _ _ _ h => h
      try simp only [Act.put, List.setIfInBounds_toArray, List.set_cons_zero, List.set_cons_succ]
      refine wpAnyH_take (i := 2) (oi := ?oot3) (v := ?vvt3) ?hit3 (by kernel_rfl) ?h3t3 ?h4t3 ?h5t3 ?h6t3 (by assumption) ?h8t3
      case hit3 => (simp only [List.getElem?_toArray, List.getElem?_cons_succ, List.getElem?_cons_zero]; rfl)
      case h3t3 => kernel_rfl
      case h4t3 => kernel_rfl
      case h6t3 => (refine Or.inl ⟨by rfl, ?_⟩; intro w hSw; (try dsimp only at hSw); (go_simp <;> with_reducible rfl))
      case h5t3 => exact fun _ _ _ h => h
      try simp only [Act.put, List.setIfInBounds_toArray, List.set_cons_zero, List.set_cons_succ]
      refine wpAnyH_take (i := 3) (oi := ?oot4) (v := ?vvt4) ?hit4 (by kernel_rfl) ?h3t4 ?h4t4 ?h5t4 ?h6t4 (by assumption) ?h8t4
      case hit4 => (simp only [List.getElem?_toArray, List.getElem?_cons_succ, List.getElem?_cons_zero]; rfl)
      case h3t4 => kernel_rfl
      case h4t4 => kernel_rfl
      case h6t4 => (refine Or.inl ⟨by rfl, ?_⟩; intro w hSw; (try dsimp only at hSw); (go_simp <;> with_reducible rfl))
      case h5t4 => exact fun _ _ _ h => h
      try simp only [Act.put, List.setIfInBounds_toArray, List.set_cons_zero, List.set_cons_succ]
      refine wpAnyH_take (i := 4) (oi := ?oot5) (v := ?vvt5) ?hit5 (by kernel_rfl) ?h3t5 ?h4t5 ?h5t5 ?h6t5 (by assumption) ?h8t5
      case hit5 => (simp only [List.getElem?_toArray, List.getElem?_cons_succ, List.getElem?_cons_zero]; rfl)
      case h3t5 => kernel_rfl
      case h4t5 => kernel_rfl
      case h6t5 => (refine Or.inl ⟨by rfl, ?_⟩; intro w hSw; (try dsimp only at hSw); (go_simp <;> with_reducible rfl))
      case h5t5 => exact fun _ _ _ h => h
      try simp only [Act.put, List.setIfInBounds_toArray, List.set_cons_zero, List.set_cons_succ]
      refine wpAnyH_take (i := 5) (oi := ?oot6) (v := ?vvt6) ?hit6 (by kernel_rfl) ?h3t6 ?h4t6 ?h5t6 ?h6t6 (by assumption) ?h8t6
      case hit6 => (simp only [List.getElem?_toArray, List.getElem?_cons_succ, List.getElem?_cons_zero]; rfl)
      case h3t6 => kernel_rfl
      case h4t6 => kernel_rfl
      case h6t6 => (refine Or.inl ⟨by rfl, ?_⟩; intro w hSw; (try dsimp only at hSw); (go_simp <;> with_reducible rfl))
      case h5t6 => exact fun _ _ _ h => h
      try simp only [Act.put, List.setIfInBounds_toArray, List.set_cons_zero, List.set_cons_succ]
      refine wpAnyH_take (i := 6) (oi := ?oot7) (v := ?vvt7) ?hit7 (by kernel_rfl) ?h3t7 ?h4t7 ?h5t7 ?h6t7 (by assumption) ?h8t7
      case hit7 => (simp only [List.getElem?_toArray, List.getElem?_cons_succ, List.getElem?_cons_zero]; rfl)
      case h3t7 => kernel_rfl
      case h4t7 => kernel_rfl
      case h6t7 => (refine Or.inl ⟨by rfl, ?_⟩; intro w hSw; (try dsimp only at hSw); (go_simp <;> with_reducible rfl))
      case h5t7 => exact fun _ _ _ h => h
      try simp only [Act.put, List.setIfInBounds_toArray, List.set_cons_zero, List.set_cons_succ]
      refine wpAnyH_take (i := 7) (oi := ?oot8) (v := ?vvt8) ?hit8 (by kernel_rfl) ?h3t8 ?h4t8 ?h5t8 ?h6t8 (by assumption) ?h8t8
      case hit8 => (simp only [List.getElem?_toArray, List.getElem?_cons_succ, List.getElem?_cons_zero]; rfl)
      case h3t8 => kernel_rfl
      case h4t8 => kernel_rfl
      case h6t8 => (refine Or.inl ⟨by rfl, ?_⟩; intro w hSw; (try dsimp only at hSw); (go_simp <;> with_reducible rfl))
      case h5t8 => exact fun _ _ _ h => h
      try simp only [Act.put, List.setIfInBounds_toArray, List.set_cons_zero, List.set_cons_succ]
      refine wpAnyH_take (i := 8) (oi := ?oot9) (v := ?vvt9) ?hit9 (by kernel_rfl) ?h3t9 ?h4t9 ?h5t9 ?h6t9 (by assumption) ?h8t9
      case hit9 => (simp only [List.getElem?_toArray, List.getElem?_cons_succ, List.getElem?_cons_zero]; rfl)
      case h3t9 => kernel_rfl
      case h4t9 => kernel_rfl
      case h6t9 => (refine Or.inl ⟨by rfl, ?_⟩; intro w hSw; (try dsimp only at hSw); (go_simp <;> with_reducible rfl))
      case h5t9 => exact fun _ _ _ h => h
      try simp only [Act.put, List.setIfInBounds_toArray, List.set_cons_zero, List.set_cons_succ]
      refine wpAnyH_ready (rs := [9, 14]) (by kernel_rfl) (by simp) (AllReadyH.cons (o := ?oot10q0) ?hit10q0 (fun K hK => ?hkt10q0) (AllReadyH.cons (o := ?oot10q1) ?hit10q1 (fun K hK => ?hkt10q1) AllReadyH.nil))
      case hit10q0 => (simp only [List.getElem?_toArray, List.getElem?_cons_succ, List.getElem?_cons_zero]; rfl)
      case hit10q1 => (simp only [List.getElem?_toArray, List.getElem?_cons_succ, List.getElem?_cons_zero]; rfl)
      case hkt10q0 =>
        (rw [if_pos (by rfl)]; go_simp; refine (CS _).mono ?_; rintro e wq ⟨rfl, hb⟩; go_wp2_with fail; refine hK.out _ _ (HMK.out _ (bel_tr hHeld.2 hb)) (fun hHeld => ?_); clear hK K)
        try simp only [Act.put, List.setIfInBounds_toArray, List.set_cons_zero, List.set_cons_succ]
        refine wpAnyH_take (i := 10) (oi := ?oot11) (v := ?vvt11) ?hit11 (by kernel_rfl) ?h3t11 ?h4t11 ?h5t11 ?h6t11 (by assumption) ?h8t11
        case hit11 => (simp only [List.getElem?_toArray, List.getElem?_cons_succ, List.getElem?_cons_zero]; rfl)
        case h3t11 => kernel_rfl
        case h4t11 => kernel_rfl
        case h6t11 => (refine Or.inl ⟨by rfl, ?_⟩; intro w hSw; (try dsimp only at hSw); (go_simp <;> with_reducible rfl))
        case h5t11 => exact fun _ _ _ h => h
        try simp only [Act.put, List.setIfInBounds_toArray, List.set_cons_zero, List.set_cons_succ]
        refine wpAnyH_take (i := 11) (oi := ?oot12) (v := ?vvt12) ?hit12 (by kernel_rfl) ?h3t12 ?h4t12 ?h5t12 ?h6t12 (by assumption) ?h8t12
        case hit12 => (simp only [List.getElem?_toArray, List.getElem?_cons_succ, List.getElem?_cons_zero]; rfl)
        case h3t12 => kernel_rfl
        case h4t12 => kernel_rfl
        case h6t12 => (refine Or.inl ⟨by rfl, ?_⟩; intro w hSw; (try dsimp only at hSw); (go_simp <;> with_reducible rfl))
        case h5t12 => exact fun _ _ _ h => h
        try simp only [Act.put, List.setIfInBounds_toArray, List.set_cons_zero, List.set_cons_succ]
        refine wpAnyH_take (i := 12) (oi := ?oot13) (v := ?vvt13) ?hit13 (by kernel_rfl) ?h3t13 ?h4t13 ?h5t13 ?h6t13 (by assumption) ?h8t13
        case hit13 => (simp only [List.getElem?_toArray, List.getElem?_cons_succ, List.getElem?_cons_zero]; rfl)
        case h3t13 => kernel_rfl
        case h4t13 => kernel_rfl
        case h6t13 => (refine Or.inl ⟨by rfl, ?_⟩; intro w hSw; (try dsimp only at hSw); (go_simp <;> with_reducible rfl))
        case h5t13 => exact fun _ _ _ h => h
        try simp only [Act.put, List.setIfInBounds_toArray, List.set_cons_zero, List.set_cons_succ]
        refine wpAnyH_take (i := 13) (oi := ?oot14) (v := ?vvt14) ?hit14 (by kernel_rfl) ?h3t14 ?h4t14 ?h5t14 ?h6t14 (by assumption) ?h8t14
        case hit14 => (simp only [List.getElem?_toArray, List.getElem?_cons_succ, List.getElem?_cons_zero]; rfl)
        case h3t14 => kernel_rfl
        case h4t14 => kernel_rfl
        case h6t14 => (refine Or.inl ⟨by rfl, ?_⟩; intro w hSw; (try dsimp only at hSw); (go_simp <;> with_reducible rfl))
        case h5t14 => exact fun _ _ _ h => h
        try simp only [Act.put, List.setIfInBounds_toArray, List.set_cons_zero, List.set_cons_succ]
        refine wpAnyH_ready (rs := [14]) (by kernel_rfl) (by simp) (AllReadyH.cons (o := ?oot15) ?hit15 (fun K hK => ?hkt15) AllReadyH.nil)
        rotate_left
        case hit15 => (simp only [List.getElem?_toArray, List.getElem?_cons_succ, List.getElem?_cons_zero]; rfl)
        (rw [if_pos (by rfl)]; go_simp; have F7 := Lib.hid (Blk.new wq 51 #[.int .i64 0, .int .i64 0]); have E7 := HMK.out _ (hHeld.2.alloc hHeld.2.size (.cells #[.int .i64 0, .int .i64 0] 51)); have L6 := hHeld.2.size; generalize wq.alloc (.cells #[.int .i64 0, .int .i64 0] 51) = W7 at F7 E7 ⊢; generalize wq.heap.size = gf at F7 L6 ⊢; refine hK.out _ _ (E7) (fun hHeld => ?_); clear hK K)
        try simp only [Act.put, List.setIfInBounds_toArray, List.set_cons_zero, List.set_cons_succ]
        refine wpAnyH_ready (rs := [15]) (by kernel_rfl) (by simp) (AllReadyH.cons (o := ?oot16) ?hit16 (fun K hK => ?hkt16) AllReadyH.nil)
        rotate_left
        case hit16 => (simp only [List.getElem?_toArray, List.getElem?_cons_succ, List.getElem?_cons_zero]; rfl)
        (rw [if_pos (by rfl)]; have fc0 := F7.out.cell 0; have ff0 := F7.out.frozen 0; have fc1 := F7.out.cell 1; have ff1 := F7.out.frozen 1; simp only [List.getElem?_toArray, List.getElem?_cons_zero, List.getElem?_cons_succ] at fc0 fc1; go_simp; have F8 : Hid (Blk _ gf 51 #[.int .i64 r, .int .i64 s_]) := Lib.hid (((F7.out).set_ 0 (.int .i64 r)).set_ 1 (.int .i64 s_)); have E8 := HMK.out _ (((hHeld.2).setCell (p := ⟨gf, 0, none⟩) L6 (.int .i64 r)).setCell (p := ⟨gf, 1, none⟩) L6 (.int .i64 s_)); generalize World.setCell (World.setCell (_) ⟨gf, 0, none⟩ (.int .i64 r)) ⟨gf, 1, none⟩ (.int .i64 s_) = W8 at F8 E8 ⊢; clear fc0 ff0 fc1 ff1 F7; refine hK.out _ _ (E8) (fun hHeld => ?_); clear hK K)
        try simp only [Act.put, List.setIfInBounds_toArray, List.set_cons_zero, List.set_cons_succ]
        refine wpAnyH_take (i := 16) (oi := ?oot17) (v := ?vvt17) ?hit17 (by kernel_rfl) ?h3t17 ?h4t17 ?h5t17 ?h6t17 (by assumption) ?h8t17
        case hit17 => (simp only [List.getElem?_toArray, List.getElem?_cons_succ, List.getElem?_cons_zero]; rfl)
        case h3t17 => kernel_rfl
        case h4t17 => kernel_rfl
        case h6t17 => (refine Or.inl ⟨by rfl, ?_⟩; intro w hSw; (try dsimp only at hSw); (go_simp <;> with_reducible rfl))
        case h5t17 => exact fun _ _ _ h => h
        try simp only [Act.put, List.setIfInBounds_toArray, List.set_cons_zero, List.set_cons_succ]
        refine wpAnyH_take (i := 17) (oi := ?oot18) (v := ?vvt18) ?hit18 (by kernel_rfl) ?h3t18 ?h4t18 ?h5t18 ?h6t18 (by assumption) ?h8t18
        case hit18 => (simp only [List.getElem?_toArray, List.getElem?_cons_succ, List.getElem?_cons_zero]; rfl)
        case h3t18 => kernel_rfl
        case h4t18 => kernel_rfl
        case h6t18 => (refine Or.inl ⟨by rfl, ?_⟩; intro w hSw; (try dsimp only at hSw); (go_simp <;> with_reducible rfl))
        case h5t18 => exact fun _ _ _ h => h
        try simp only [Act.put, List.setIfInBounds_toArray, List.set_cons_zero, List.set_cons_succ]
        refine wpAnyH_done (by kernel_rfl) ?_ _
        have hE8 := E8.2
        have G8 := F8.out
        obtain ⟨O1, O2, B8, R8, BB, DD, m1, m2⟩ := HR.out
        clear E8 F8 HMK hHeld HR
        replace O1 := O1.of_block hE8
        replace O2 := O2.of_block hE8
        replace B8 := B8.next hE8
        replace R8 := R8.next hE8
        have BB8 := bel_tr BB hE8
        clear hE8 BB
        obtain ⟨d0, d1, d2, d3, d4⟩ := blk_two B8
        obtain ⟨f0, f1, f2, f3, f4⟩ := blk_two G8
        have P1 := (O1.far (g := w.heap.size) (j := 0) (fun c => by have := O1.grow _ c; omega) (.int .i64 r)).far (g := w.heap.size) (j := 1) (fun c => by have := O1.grow _ c; omega) (.int .i64 s_)
        have P2 := (O2.far (g := w.heap.size) (j := 0) (fun c => by have := O2.grow _ c; omega) (.int .i64 r)).far (g := w.heap.size) (j := 1) (fun c => by have := O2.grow _ c; omega) (.int .i64 s_)
        have B9 := B8.two (.int .i64 r) (.int .i64 s_)
        have R9 := (R8.far (p := ⟨w.heap.size, 0, none⟩) (by show w.heap.size + 1 ≠ w.heap.size; omega) (.int .i64 r)).far (p := ⟨w.heap.size, 1, none⟩) (by show w.heap.size + 1 ≠ w.heap.size; omega) (.int .i64 s_)
        have BB9 := (BB8.setCell (p := ⟨w.heap.size, 0, none⟩) (Nat.le_refl _) (.int .i64 r)).setCell (p := ⟨w.heap.size, 1, none⟩) (Nat.le_refl _) (.int .i64 s_)
        have lt9 := R9.lt
        have HS := Lib.hid (And.intro P2 (And.intro B9 (And.intro R9 BB9)))
        have HP1 := Lib.hid P1
        clear O1 O2 B8 R8 BB8 G8 P1 P2 B9 R9 BB9
        go_upto_region 9 with (first | (at_builtin; refine wp_snoc rfl _ _ rfl rfl HP1.out rfl (by simp) (by rw [HL1.out]; omega) (by omega) ?_; intro v3 w3 Q1 G3 n3))
        obtain ⟨P2, B9, R9, BB9⟩ := HS.out
        have gr1 := HP1.out.grow
        have Q2 := P2.grown G3 (Ne.symm DD)
        have D3 := own_apart2 P2 n3 (Ne.symm DD) m2
        have m3 : v3.ownBlock ≠ none := by rcases n3 with e | ⟨q, e, _⟩; rw [e]; exact m1; rw [e]; simp
        have B10 := B9.grown G3 (fun c => by have := gr1 _ c.symm; omega)
        have R10 := R9.grown G3 (fun c => by have := gr1 _ c.symm; omega)
        have BB10 := below_gv BB9 G3 (fun q hq => by have := gr1 q hq; omega)
        have lt10 := R10.lt
        have HS2 := Lib.hid (And.intro Q1 (And.intro B10 (And.intro R10 BB10)))
        have HP2 := Lib.hid Q2
        clear P2 B9 R9 BB9 HS HP1 gr1 Q1 Q2 B10 R10 BB10 n3 G3 d0 d1 d2 d3 d4 f0 f1 f2 f3 f4 m1 x0 x1 s0 s1
        go_wp2_with (first | (at_builtin; refine wp_snoc rfl _ _ rfl rfl HP2.out rfl rfl (by rw [HL2.out]; omega) (by omega) ?_; intro v4 w4 S2 G4 n4))
        obtain ⟨Q1, B10, R10, BB10⟩ := HS2.out
        have gr2 := HP2.out.grow
        have S1 := Q1.grown G4 (Ne.symm D3)
        have D4 := own_apart2 Q1 n4 (Ne.symm D3) m3
        have m4 : v4.ownBlock ≠ none := by rcases n4 with e | ⟨q, e, _⟩; rw [e]; exact m2; rw [e]; simp
        have B11 := B10.grown G4 (fun c => by have := gr2 _ c.symm; omega)
        have R11 := R10.grown G4 (fun c => by have := gr2 _ c.symm; omega)
        have BB11 := below_gv BB10 G4 (fun q hq => by have := gr2 q hq; omega)
        have HF := Lib.hid (And.intro S1 (And.intro S2 (And.intro B11 (And.intro R11 (And.intro BB11 (And.intro D4 (And.intro m3 m4)))))))
        clear Q1 B10 R10 BB10 HS2 HP2 gr2 S1 S2 D4 m4 B11 R11 BB11 n4 G4 m2 m3 D3 DD
        go_roundw
        case rel => exact ⟨k + 1, by omega, by go_num, by rw [HET.out, HG1.out, HG2.out]; exact HF.out⟩
        case measure => simp [intOf]; omega
      case hkt10q1 =>
        (rw [if_pos (by rfl)]; go_simp; have F7 : Hid (Blk (wr.alloc (.cells #[.int .i64 0, .int .i64 0] 51)).drew wr.heap.size 51 #[.int .i64 0, .int .i64 0]) := Blk.new wr 51 #[.int .i64 0, .int .i64 0]; have E7 := HMK.out (wr.alloc (.cells #[.int .i64 0, .int .i64 0] 51)).drew ((Below.refl _ wr).alloc (Nat.le_refl _) (.cells #[.int .i64 0, .int .i64 0] 51)).drew; have L6 : wr.heap.size ≤ wr.heap.size := Nat.le_refl _; generalize (wr.alloc (.cells #[.int .i64 0, .int .i64 0] 51)).drew = W7 at F7 E7 ⊢; obtain ⟨gf, hgf⟩ : ∃ gf, gf = wr.heap.size := ⟨_, rfl⟩; rw [← hgf] at F7 ⊢; replace L6 : wr.heap.size ≤ gf := (by omega); clear hgf; refine hK.out _ _ (E7) (fun hHeld => ?_); clear hK K)
        try simp only [Act.put, List.setIfInBounds_toArray, List.set_cons_zero, List.set_cons_succ]
        refine wpAnyH_ready (rs := [9]) (by kernel_rfl) (by simp) (AllReadyH.cons (o := ?oot20) ?hit20 (fun K hK => ?hkt20) AllReadyH.nil)
        rotate_left
        case hit20 => (simp only [List.getElem?_toArray, List.getElem?_cons_succ, List.getElem?_cons_zero]; rfl)
        (rw [if_pos (by rfl)]; go_simp; refine (CS _).mono ?_; rintro e wq ⟨rfl, hb⟩; replace F7 := Lib.hid (F7.out.next hb); go_wp2_with fail; refine hK.out _ _ (HMK.out _ (bel_tr hHeld.2 hb)) (fun hHeld => ?_); clear hK K)
        try simp only [Act.put, List.setIfInBounds_toArray, List.set_cons_zero, List.set_cons_succ]
        refine wpAnyH_take (i := 10) (oi := ?oot21) (v := ?vvt21) ?hit21 (by kernel_rfl) ?h3t21 ?h4t21 ?h5t21 ?h6t21 (by assumption) ?h8t21
        case hit21 => (simp only [List.getElem?_toArray, List.getElem?_cons_succ, List.getElem?_cons_zero]; rfl)
        case h3t21 => kernel_rfl
        case h4t21 => kernel_rfl
        case h6t21 => (refine Or.inl ⟨by rfl, ?_⟩; intro w hSw; (try dsimp only at hSw); (go_simp <;> with_reducible rfl))
        case h5t21 => exact fun _ _ _ h => h
        try simp only [Act.put, List.setIfInBounds_toArray, List.set_cons_zero, List.set_cons_succ]
        refine wpAnyH_take (i := 11) (oi := ?oot22) (v := ?vvt22) ?hit22 (by kernel_rfl) ?h3t22 ?h4t22 ?h5t22 ?h6t22 (by assumption) ?h8t22
        case hit22 => (simp only [List.getElem?_toArray, List.getElem?_cons_succ, List.getElem?_cons_zero]; rfl)
        case h3t22 => kernel_rfl
        case h4t22 => kernel_rfl
        case h6t22 => (refine Or.inl ⟨by rfl, ?_⟩; intro w hSw; (try dsimp only at hSw); (go_simp <;> with_reducible rfl))
        case h5t22 => exact fun _ _ _ h => h
        try simp only [Act.put, List.setIfInBounds_toArray, List.set_cons_zero, List.set_cons_succ]
        refine wpAnyH_take (i := 12) (oi := ?oot23) (v := ?vvt23) ?hit23 (by kernel_rfl) ?h3t23 ?h4t23 ?h5t23 ?h6t23 (by assumption) ?h8t23
        case hit23 => (simp only [List.getElem?_toArray, List.getElem?_cons_succ, List.getElem?_cons_zero]; rfl)
        case h3t23 => kernel_rfl
        case h4t23 => kernel_rfl
        case h6t23 => (refine Or.inl ⟨by rfl, ?_⟩; intro w hSw; (try dsimp only at hSw); (go_simp <;> with_reducible rfl))
        case h5t23 => exact fun _ _ _ h => h
        try simp only [Act.put, List.setIfInBounds_toArray, List.set_cons_zero, List.set_cons_succ]
        refine wpAnyH_take (i := 13) (oi := ?oot24) (v := ?vvt24) ?hit24 (by kernel_rfl) ?h3t24 ?h4t24 ?h5t24 ?h6t24 (by assumption) ?h8t24
        case hit24 => (simp only [List.getElem?_toArray, List.getElem?_cons_succ, List.getElem?_cons_zero]; rfl)
        case h3t24 => kernel_rfl
        case h4t24 => kernel_rfl
        case h6t24 => (refine Or.inl ⟨by rfl, ?_⟩; intro w hSw; (try dsimp only at hSw); (go_simp <;> with_reducible rfl))
        case h5t24 => exact fun _ _ _ h => h
        try simp only [Act.put, List.setIfInBounds_toArray, List.set_cons_zero, List.set_cons_succ]
        refine wpAnyH_ready (rs := [15]) (by kernel_rfl) (by simp) (AllReadyH.cons (o := ?oot25) ?hit25 (fun K hK => ?hkt25) AllReadyH.nil)
        rotate_left
        case hit25 => (simp only [List.getElem?_toArray, List.getElem?_cons_succ, List.getElem?_cons_zero]; rfl)
        (rw [if_pos (by rfl)]; have fc0 := F7.out.cell 0; have ff0 := F7.out.frozen 0; have fc1 := F7.out.cell 1; have ff1 := F7.out.frozen 1; simp only [List.getElem?_toArray, List.getElem?_cons_zero, List.getElem?_cons_succ] at fc0 fc1; go_simp; have F8 : Hid (Blk _ gf 51 #[.int .i64 r, .int .i64 s_]) := Lib.hid (((F7.out).set_ 0 (.int .i64 r)).set_ 1 (.int .i64 s_)); have E8 := HMK.out _ (((hHeld.2).setCell (p := ⟨gf, 0, none⟩) L6 (.int .i64 r)).setCell (p := ⟨gf, 1, none⟩) L6 (.int .i64 s_)); generalize World.setCell (World.setCell (_) ⟨gf, 0, none⟩ (.int .i64 r)) ⟨gf, 1, none⟩ (.int .i64 s_) = W8 at F8 E8 ⊢; clear fc0 ff0 fc1 ff1 F7; refine hK.out _ _ (E8) (fun hHeld => ?_); clear hK K)
        try simp only [Act.put, List.setIfInBounds_toArray, List.set_cons_zero, List.set_cons_succ]
        refine wpAnyH_take (i := 16) (oi := ?oot26) (v := ?vvt26) ?hit26 (by kernel_rfl) ?h3t26 ?h4t26 ?h5t26 ?h6t26 (by assumption) ?h8t26
        case hit26 => (simp only [List.getElem?_toArray, List.getElem?_cons_succ, List.getElem?_cons_zero]; rfl)
        case h3t26 => kernel_rfl
        case h4t26 => kernel_rfl
        case h6t26 => (refine Or.inl ⟨by rfl, ?_⟩; intro w hSw; (try dsimp only at hSw); (go_simp <;> with_reducible rfl))
        case h5t26 => exact fun _ _ _ h => h
        try simp only [Act.put, List.setIfInBounds_toArray, List.set_cons_zero, List.set_cons_succ]
        refine wpAnyH_take (i := 17) (oi := ?oot27) (v := ?vvt27) ?hit27 (by kernel_rfl) ?h3t27 ?h4t27 ?h5t27 ?h6t27 (by assumption) ?h8t27
        case hit27 => (simp only [List.getElem?_toArray, List.getElem?_cons_succ, List.getElem?_cons_zero]; rfl)
        case h3t27 => kernel_rfl
        case h4t27 => kernel_rfl
        case h6t27 => (refine Or.inl ⟨by rfl, ?_⟩; intro w hSw; (try dsimp only at hSw); (go_simp <;> with_reducible rfl))
        case h5t27 => exact fun _ _ _ h => h
        try simp only [Act.put, List.setIfInBounds_toArray, List.set_cons_zero, List.set_cons_succ]
        refine wpAnyH_done (by kernel_rfl) ?_ _
        have hE8 := E8.2
        have G8 := F8.out
        obtain ⟨O1, O2, B8, R8, BB, DD, m1, m2⟩ := HR.out
        clear E8 F8 HMK hHeld HR
        replace O1 := O1.of_block hE8
        replace O2 := O2.of_block hE8
        replace B8 := B8.next hE8
        replace R8 := R8.next hE8
        have BB8 := bel_tr BB hE8
        clear hE8 BB
        obtain ⟨d0, d1, d2, d3, d4⟩ := blk_two B8
        obtain ⟨f0, f1, f2, f3, f4⟩ := blk_two G8
        have P1 := (O1.far (g := w.heap.size) (j := 0) (fun c => by have := O1.grow _ c; omega) (.int .i64 r)).far (g := w.heap.size) (j := 1) (fun c => by have := O1.grow _ c; omega) (.int .i64 s_)
        have P2 := (O2.far (g := w.heap.size) (j := 0) (fun c => by have := O2.grow _ c; omega) (.int .i64 r)).far (g := w.heap.size) (j := 1) (fun c => by have := O2.grow _ c; omega) (.int .i64 s_)
        have B9 := B8.two (.int .i64 r) (.int .i64 s_)
        have R9 := (R8.far (p := ⟨w.heap.size, 0, none⟩) (by show w.heap.size + 1 ≠ w.heap.size; omega) (.int .i64 r)).far (p := ⟨w.heap.size, 1, none⟩) (by show w.heap.size + 1 ≠ w.heap.size; omega) (.int .i64 s_)
        have BB9 := (BB8.setCell (p := ⟨w.heap.size, 0, none⟩) (Nat.le_refl _) (.int .i64 r)).setCell (p := ⟨w.heap.size, 1, none⟩) (Nat.le_refl _) (.int .i64 s_)
        have lt9 := R9.lt
        have HS := Lib.hid (And.intro P2 (And.intro B9 (And.intro R9 BB9)))
        have HP1 := Lib.hid P1
        clear O1 O2 B8 R8 BB8 G8 P1 P2 B9 R9 BB9
        go_upto_region 9 with (first | (at_builtin; refine wp_snoc rfl _ _ rfl rfl HP1.out rfl (by simp) (by rw [HL1.out]; omega) (by omega) ?_; intro v3 w3 Q1 G3 n3))
        obtain ⟨P2, B9, R9, BB9⟩ := HS.out
        have gr1 := HP1.out.grow
        have Q2 := P2.grown G3 (Ne.symm DD)
        have D3 := own_apart2 P2 n3 (Ne.symm DD) m2
        have m3 : v3.ownBlock ≠ none := by rcases n3 with e | ⟨q, e, _⟩; rw [e]; exact m1; rw [e]; simp
        have B10 := B9.grown G3 (fun c => by have := gr1 _ c.symm; omega)
        have R10 := R9.grown G3 (fun c => by have := gr1 _ c.symm; omega)
        have BB10 := below_gv BB9 G3 (fun q hq => by have := gr1 q hq; omega)
        have lt10 := R10.lt
        have HS2 := Lib.hid (And.intro Q1 (And.intro B10 (And.intro R10 BB10)))
        have HP2 := Lib.hid Q2
        clear P2 B9 R9 BB9 HS HP1 gr1 Q1 Q2 B10 R10 BB10 n3 G3 d0 d1 d2 d3 d4 f0 f1 f2 f3 f4 m1 x0 x1 s0 s1
        go_wp2_with (first | (at_builtin; refine wp_snoc rfl _ _ rfl rfl HP2.out rfl rfl (by rw [HL2.out]; omega) (by omega) ?_; intro v4 w4 S2 G4 n4))
        obtain ⟨Q1, B10, R10, BB10⟩ := HS2.out
        have gr2 := HP2.out.grow
        have S1 := Q1.grown G4 (Ne.symm D3)
        have D4 := own_apart2 Q1 n4 (Ne.symm D3) m3
        have m4 : v4.ownBlock ≠ none := by rcases n4 with e | ⟨q, e, _⟩; rw [e]; exact m2; rw [e]; simp
        have B11 := B10.grown G4 (fun c => by have := gr2 _ c.symm; omega)
        have R11 := R10.grown G4 (fun c => by have := gr2 _ c.symm; omega)
        have BB11 := below_gv BB10 G4 (fun q hq => by have := gr2 q hq; omega)
        have HF := Lib.hid (And.intro S1 (And.intro S2 (And.intro B11 (And.intro R11 (And.intro BB11 (And.intro D4 (And.intro m3 m4)))))))
        clear Q1 B10 R10 BB10 HS2 HP2 gr2 S1 S2 D4 m4 B11 R11 BB11 n4 G4 m2 m3 D3 DD
        go_roundw
        case rel => exact ⟨k + 1, by omega, by go_num, by rw [HET.out, HG1.out, HG2.out]; exact HF.out⟩
        case measure => simp [intOf]; omega
    · obtain rfl : k = cs.length := by omega
      rw [hrs_all HV.out.2.2] at HR
      obtain ⟨O1, O2, K2, R2, BB, _, _, _⟩ := HR.out
      obtain ⟨s0, s1, s2, s3, s4⟩ := blk_two K2
      obtain ⟨t0, t1, t2, t3, t4⟩ := blk_two R2
      have P1 := own_lower ((O1.far (g := w.heap.size + 1) (j := 0) (fun c => by have := O1.grow _ c; omega) (.int .i64 r)).far (g := w.heap.size + 1) (j := 1) (fun c => by have := O1.grow _ c; omega) (.int .i64 (endB r h (hrs cs ws)))) (show w.heap.size ≤ w.heap.size + 2 by omega)
      have P2 := own_lower ((O2.far (g := w.heap.size + 1) (j := 0) (fun c => by have := O2.grow _ c; omega) (.int .i64 r)).far (g := w.heap.size + 1) (j := 1) (fun c => by have := O2.grow _ c; omega) (.int .i64 (endB r h (hrs cs ws)))) (show w.heap.size ≤ w.heap.size + 2 by omega)
      have BB3 := (BB.setCell (p := ⟨w.heap.size + 1, 0, none⟩) (by show w.heap.size ≤ w.heap.size + 1; omega) (.int .i64 r)).setCell (p := ⟨w.heap.size + 1, 1, none⟩) (by show w.heap.size ≤ w.heap.size + 1; omega) (.int .i64 (endB r h (hrs cs ws)))
      obtain ⟨f0, f1, _, _, _⟩ := blk_two (R2.two (.int .i64 r) (.int .i64 (endB r h (hrs cs ws))))
      have HO := Lib.hid (And.intro P1 (And.intro P2 BB3))
      have HF := Lib.hid (And.intro f0 f1)

      clear BB3 f0 f1 R2 HR O1 O2 P1 P2 BB K2
      obtain ⟨e_, he⟩ : ∃ x, endB r h (hrs cs ws) = x := ⟨_, rfl⟩
      rw [he] at s1 HO HF
      have HE := Lib.hid he
      clear he
      go_wp2_with fail
      go_region
      all_goals (
        go_wp2_with fail
        obtain ⟨f0, f1⟩ := HF.out
        refine bodyPost_ret (v := .tuple #[u9, u10, .agg #[.int .i64 r, .int .i64 e_]]) (by simp [results, Try.results67, go_sem, f0, f1]) rfl ⟨_, _, by rw [HE.out], HO.out.1, HO.out.2.1, below_drewN HO.out.2.2 1⟩)
end Go.Proofs.Ytigapnbpgbfbhac
