/- For every input the law answers true, and its argument reads afterwards as before: units are shares. No condition. -/
import Derived.Test.YtppnhhnilnikfaaRows
import Derived.Test.YtppnhhnilnikfaaDrawHf
import Derived.Test.YtppnhhnilnikfaaLedM
import Derived.Test.YtppnhhnilnikfaaEqH
import Derived.Test.YtppnhhnilnikfaaKeep
import Derived.Test.YtppnhhnilnikfaaOwnInts
import Derived.Test.YtppnhhnilnikfaaEqI
import Derived.Test.YtppnhhnilnikfaaMake
import Derived.WalkKit
import Derived.Deep.RegionHeld3
import Derived.Deep.QuietTactic
import Derived.ProofKit
import Derived.OpenShut
import Derived.ShutString
import Derived.ChangeOld
import Derived.Below
import Derived.Lib.SmallJoins
namespace Go.Proofs.Ytppnhhnilnikfaa.fnUnitsOf
open Go.ChangeShapes Go.WideShapes Go.ChangeAt Go.RowKit Go.Joins
open Go.ChangeMaps (open_string shut_string)
set_option linter.unusedVariables false
set_option linter.unusedSimpArgs false

theorem own : ownKnob Try.prog.godebug = none := by kernel_rfl
theorem laidOut : laidOutB Try.prog = true := by kernel_rfl

set_option maxRecDepth 100000 in
set_option maxHeartbeats 6000000 in
theorem walk (a0 : Option Addr) (len0 cap0 : Nat) (z0 : List Int) (w : World) (w0 : IsRow .u8 w a0 len0 cap0 z0) :
    Calls Try.prog 10 #[.slice a0 len0 cap0] w fun e w' => e = .returned (.bool true) ∧ Below w.heap.size w w' := by
  by_cases big : (1048576 : Int) < (len0 : Int)
  · go_enter Try.func10, Try.ntmps10
    go_wp2
    go_ret
    exact ⟨rfl, Below.refl _ _⟩
  go_enter Try.func10, Try.ntmps10
  go_wp2_with fail
  refine (drawUnitsOf a0 len0 cap0 z0 _ w0).mono ?_
  rintro e u1 ⟨b, cp, hs, rfl, hl6, hlc, hi, B⟩
  clear w0 big
  have n1 : hs.length ≤ 1048576 := by omega
  have HI := Lib.hid hi
  have D := Below.refl u1.heap.size u1
  clear hi
  by_cases hv : cdR hs = -1
  · have HVV := Lib.hid hv
    have CI : ∀ W, Below u1.heap.size u1 W → Calls Try.prog 34 #[.slice b hs.length cp] W fun e w' => e = .returned (.slice none 0 0) ∧ Below W.heap.size W w' := fun W hW => iUnits_no b cp hs W (hs_below HI.out hW) n1 HVV.out
    have CS : ∀ W, Below u1.heap.size u1 W → Calls Try.prog 37 #[.slice b hs.length cp] W fun e w' => e = .returned (.slice none 0 0) ∧ Below W.heap.size W w' := fun W hW => sUnits_no b cp hs W (hs_below HI.out hW) n1 HVV.out
    have CE : ∀ W, Calls Try.prog 36 #[.slice none 0 0, .slice none 0 0] W fun e w' => e = .returned (.bool true) ∧ Below W.heap.size W w' := fun W => eqInts none none 0 0 [] W (.inl rfl) (.inl rfl) (by decide)
    clear hv
    go_wp2_with fail
    refine (CI _ D).mono ?_
    rintro e u ⟨rfl, C⟩
    replace B := bel_tr B C
    replace D := bel_tr D C
    clear C
    go_wp2_with fail
    refine (CS _ D).mono ?_
    rintro e u ⟨rfl, C⟩
    replace B := bel_tr B C
    replace D := bel_tr D C
    clear C
    go_wp2_with fail
    refine (CE _).mono ?_
    rintro e u ⟨rfl, C⟩
    replace B := bel_tr B C
    replace D := bel_tr D C
    clear C
    go_wp2_with fail
    refine (CS _ D).mono ?_
    rintro e u ⟨rfl, C⟩
    replace B := bel_tr B C
    replace D := bel_tr D C
    clear C
    go_wp2_with fail
    refine (CE _).mono ?_
    rintro e u ⟨rfl, C⟩
    replace B := bel_tr B C
    replace D := bel_tr D C
    clear C
    go_wp2_with fail
    go_ret
    exact ⟨rfl, B⟩
  · obtain ⟨ok, hle, hcd⟩ := cd_pos hv
    have hlp := lcm_pos (ledOf hs) hs.length
    have hmk := fun k (hk : k < hs.length) => un_make ok hle hk
    have hne : 1 ≤ hs.length := vl_some ok
    have HV := Lib.hid hv
    generalize hnn : lcmTo (ledOf hs) hs.length = n at hle hcd hlp hmk
    clear hnn
    have HCD := Lib.hid hcd
    have HMK := Lib.hid hmk
    have CD : ∀ W, Below u1.heap.size u1 W → Calls Try.prog 31 #[.slice b hs.length cp] W fun e w' => e = .returned (.int .i64 (n : Int)) ∧ Below W.heap.size W w' := fun W hW => by
      have := iCD b cp hs W (hs_below HI.out hW) n1
      rw [HCD.out] at this; exact this
    have CI : ∀ W, Below u1.heap.size u1 W → Calls Try.prog 34 #[.slice b hs.length cp] W (UnitsI W hs) := fun W hW => iUnits b cp hs W (hs_below HI.out hW) n1 HV.out
    have CS : ∀ W, Below u1.heap.size u1 W → Calls Try.prog 37 #[.slice b hs.length cp] W (UnitsS W hs) := fun W hW => sUnits b cp hs W (hs_below HI.out hW) n1 HV.out
    have l0 : ((hs.length : Int) == 0) = false := by simpa using (show (hs.length : Int) ≠ 0 by omega)
    have hcl : IsHs u1 b hs := HI.out
    rcases hcl with rfl | ⟨g, oo, rfl, hc⟩
    · simp at hne
    have HC := Lib.hid hc
    clear hv hcd hmk ok hc
    go_wp2_with fail
    refine (CI _ D).mono ?_
    rintro e UM ⟨go, rfl, hgo, hrow, C⟩
    replace B := bel_tr B C
    replace D := bel_tr D C
    have E := Below.refl UM.heap.size UM
    have HO := Lib.hid (row_ints hrow)
    have HLT : go < UM.heap.size := ints_lt HO.out (by rw [un_len]; omega)
    clear C hrow CI hgo
    go_wp2_with fail
    refine (CS _ D).mono ?_
    rintro e u ⟨v2, rfl, hown, C⟩
    obtain ⟨g2, co2, rfl, _, _⟩ := hown.form (by omega)
    have hO2 := own_ints0 hown
    replace B := bel_tr B C
    replace D := bel_tr D C
    replace E := bel_tr E C
    clear C hown CS
    have CE := eqInts (some ⟨go, 0, none⟩) (some ⟨g2, 0, none⟩) hs.length co2 (unR hs) u (ints_below HO.out E) hO2 (by rw [un_len]; exact n1)
    rw [un_len] at CE
    go_wp2_with fail
    refine CE.mono ?_
    rintro e u ⟨rfl, C⟩
    replace B := bel_tr B C
    replace D := bel_tr D C
    replace E := bel_tr E C
    clear C hO2 CE
    go_wp2_with fail
    go_loopw [5] (fun x wr => ∃ k : Nat, k ≤ hs.length ∧ x = .int .i64 k ∧ Below w.heap.size w wr ∧ Below u1.heap.size u1 wr ∧ Below UM.heap.size UM wr) (fun x _ => hs.length - (intOf x).toNat)
    case atStart => exact ⟨0, Nat.zero_le _, rfl, B, D, E⟩
    case round =>
      clear B D E
      obtain ⟨k, hk, rfl, B, D, E⟩ := hrel
      by_cases hlt : k < hs.length
      · obtain ⟨_, c1, c2⟩ := hs_at HC.out D hlt
        have cu := ints_at HO.out E (show k < (unR hs).length by rw [un_len]; exact hlt)
        have hm := HMK.out k hlt
        generalize (unR hs).getD k 0 = z at cu hm
        generalize (hs.getD k hd0).2.1 = x at c1 hm
        generalize (hs.getD k hd0).2.2 = y at c2 hm
        have k0 : (0 : Int) ≤ (k : Int) := by omega
        have k1 : (k : Int) < (hs.length : Int) := by omega
        have hgw : go < wr.heap.size := Nat.lt_of_lt_of_le HLT E.size
        have hgh := World.block_lt_of_cell? wr _ c1
        have CMK : ∀ W, Calls Try.prog 38 #[.int .i64 z, .int .i64 (n : Int)] W fun e w' => e = .returned (.tuple #[.agg #[.int .i64 x, .int .i64 y], .bool true]) ∧ Below W.heap.size W w' := fun W => by
          have := iMake z (n : Int) W
          rw [hm] at this; exact this
        have HB := Lib.hid B
        have HD := Lib.hid D
        have HE := Lib.hid E
        clear hm B D E
        go_wp2_with fail
        refine wp_region_held_drew (S := (fun w' => (w'.cell? ⟨go, k, none⟩ = some (.int .i64 z) ∧ w'.cell? ⟨g, oo + k * 3 + 1, none⟩ = some (.int .i64 x) ∧ w'.cell? ⟨g, oo + k * 3 + 2, none⟩ = some (.int .i64 y)) ∧ Below wr.heap.size wr w')) (by kernel_rfl) ?_ (fun hHeld => ?_)
        · exact ⟨⟨cu, c1, c2⟩, (Below.refl _ _).drew⟩
        refine wpAnyH_take (i := 0) (oi := ?oot1) (v := ?vvt1) ?hit1 (by kernel_rfl) ?h3t1 ?h4t1 ?h5t1 ?h6t1 (by assumption) ?h8t1
        case hit1 => (simp only [List.getElem?_toArray, List.getElem?_cons_succ, List.getElem?_cons_zero]; rfl)
        case h3t1 => kernel_rfl
        case h4t1 => kernel_rfl
        case h6t1 => (refine Or.inl ⟨by rfl, ?_⟩; intro w hSw; (try dsimp only at hSw); (go_simp <;> with_reducible rfl))
        case h5t1 => exact fun _ _ _ h => h
        try simp only [Act.put, List.setIfInBounds_toArray, List.set_cons_zero, List.set_cons_succ]
        refine wpAnyH_take (i := 1) (oi := ?oot2) (v := ?vvt2) ?hit2 (by kernel_rfl) ?h3t2 ?h4t2 ?h5t2 ?h6t2 (by assumption) ?h8t2
        case hit2 => (simp only [List.getElem?_toArray, List.getElem?_cons_succ, List.getElem?_cons_zero]; rfl)
        case h3t2 => kernel_rfl
        case h4t2 => kernel_rfl
        case h6t2 => (refine Or.inl ⟨by rfl, ?_⟩; intro w hSw; (try dsimp only at hSw); (go_simp <;> with_reducible rfl))
        case h5t2 => exact fun _ _ _ h => h
        try simp only [Act.put, List.setIfInBounds_toArray, List.set_cons_zero, List.set_cons_succ]
        refine wpAnyH_take (i := 2) (oi := ?oot3) (v := ?vvt3) ?hit3 (by kernel_rfl) ?h3t3 ?h4t3 ?h5t3 ?h6t3 (by assumption) ?h8t3
        case hit3 => (simp only [List.getElem?_toArray, List.getElem?_cons_succ, List.getElem?_cons_zero]; rfl)
        case h3t3 => kernel_rfl
        case h4t3 => kernel_rfl
        case h6t3 => (refine Or.inl ⟨by rfl, ?_⟩; intro w hSw; (try dsimp only at hSw); (go_simp <;> with_reducible rfl))
        case h5t3 => exact fun _ _ _ h => h
        try simp only [Act.put, List.setIfInBounds_toArray, List.set_cons_zero, List.set_cons_succ]
        refine wpAnyH_take (i := 3) (oi := ?oot4) (v := ?vvt4) ?hit4 (by kernel_rfl) ?h3t4 ?h4t4 ?h5t4 ?h6t4 (by assumption) ?h8t4
        case hit4 => (simp only [List.getElem?_toArray, List.getElem?_cons_succ, List.getElem?_cons_zero]; rfl)
        case h3t4 => kernel_rfl
        case h4t4 => kernel_rfl
        case h6t4 => (refine Or.inl ⟨by rfl, ?_⟩; intro w hSw; (try dsimp only at hSw); (go_simp <;> with_reducible rfl))
        case h5t4 => exact fun _ _ _ h => h
        try simp only [Act.put, List.setIfInBounds_toArray, List.set_cons_zero, List.set_cons_succ]
        refine wpAnyH_take (i := 4) (oi := ?oot5) (v := ?vvt5) ?hit5 (by kernel_rfl) ?h3t5 ?h4t5 ?h5t5 ?h6t5 (by assumption) ?h8t5
        case hit5 => (simp only [List.getElem?_toArray, List.getElem?_cons_succ, List.getElem?_cons_zero]; rfl)
        case h3t5 => kernel_rfl
        case h4t5 => kernel_rfl
        case h6t5 => (refine Or.inl ⟨by rfl, ?_⟩; intro w hSw; (try dsimp only at hSw); (go_simp <;> with_reducible rfl))
        case h5t5 => exact fun _ _ _ h => h
        try simp only [Act.put, List.setIfInBounds_toArray, List.set_cons_zero, List.set_cons_succ]
        refine wpAnyH_ready (rs := [5, 10]) (by kernel_rfl) (by simp) (AllReadyH.cons (o := ?oot6q0) ?hit6q0 (fun K hK => ?hkt6q0) (AllReadyH.cons (o := ?oot6q1) ?hit6q1 (fun K hK => ?hkt6q1) AllReadyH.nil))
        case hit6q0 => (simp only [List.getElem?_toArray, List.getElem?_cons_succ, List.getElem?_cons_zero]; rfl)
        case hit6q1 => (simp only [List.getElem?_toArray, List.getElem?_cons_succ, List.getElem?_cons_zero]; rfl)
        case hkt6q0 =>
          (rw [if_pos (by rfl)]; go_simp; refine (CD _ (bel_tr HD.out hHeld.2)).mono ?_; rintro e W5 ⟨rfl, hb5⟩; go_wp2_with fail; refine hK.out _ _ (kp3 hb5 hHeld) (fun hHeld => ?_); clear hK K)
          try simp only [Act.put, List.setIfInBounds_toArray, List.set_cons_zero, List.set_cons_succ]
          refine wpAnyH_ready (rs := [6, 10]) (by kernel_rfl) (by simp) (AllReadyH.cons (o := ?oot7q0) ?hit7q0 (fun K hK => ?hkt7q0) (AllReadyH.cons (o := ?oot7q1) ?hit7q1 (fun K hK => ?hkt7q1) AllReadyH.nil))
          case hit7q0 => (simp only [List.getElem?_toArray, List.getElem?_cons_succ, List.getElem?_cons_zero]; rfl)
          case hit7q1 => (simp only [List.getElem?_toArray, List.getElem?_cons_succ, List.getElem?_cons_zero]; rfl)
          case hkt7q0 =>
            (rw [if_pos (by rfl)]; go_simp; refine (CMK _).mono ?_; rintro e W6 ⟨rfl, hb6⟩; go_wp2_with fail; refine hK.out _ _ (kp3 hb6 hHeld) (fun hHeld => ?_); clear hK K)
            try simp only [Act.put, List.setIfInBounds_toArray, List.set_cons_zero, List.set_cons_succ]
            refine wpAnyH_take (i := 7) (oi := ?oot8) (v := ?vvt8) ?hit8 (by kernel_rfl) ?h3t8 ?h4t8 ?h5t8 ?h6t8 (by assumption) ?h8t8
            case hit8 => (simp only [List.getElem?_toArray, List.getElem?_cons_succ, List.getElem?_cons_zero]; rfl)
            case h3t8 => kernel_rfl
            case h4t8 => kernel_rfl
            case h6t8 => (refine Or.inl ⟨by rfl, ?_⟩; intro w hSw; (try dsimp only at hSw); (go_simp <;> with_reducible rfl))
            case h5t8 => exact fun _ _ _ h => h
            try simp only [Act.put, List.setIfInBounds_toArray, List.set_cons_zero, List.set_cons_succ]
            refine wpAnyH_take (i := 8) (oi := ?oot9) (v := ?vvt9) ?hit9 (by kernel_rfl) ?h3t9 ?h4t9 ?h5t9 ?h6t9 (by assumption) ?h8t9
            case hit9 => (simp only [List.getElem?_toArray, List.getElem?_cons_succ, List.getElem?_cons_zero]; rfl)
            case h3t9 => kernel_rfl
            case h4t9 => kernel_rfl
            case h6t9 => (refine Or.inl ⟨by rfl, ?_⟩; intro w hSw; (try dsimp only at hSw); (go_simp <;> with_reducible rfl))
            case h5t9 => exact fun _ _ _ h => h
            try simp only [Act.put, List.setIfInBounds_toArray, List.set_cons_zero, List.set_cons_succ]
            refine wpAnyH_take (i := 9) (oi := ?oot10) (v := ?vvt10) ?hit10 (by kernel_rfl) ?h3t10 ?h4t10 ?h5t10 ?h6t10 (by assumption) ?h8t10
            case hit10 => (simp only [List.getElem?_toArray, List.getElem?_cons_succ, List.getElem?_cons_zero]; rfl)
            case h3t10 => kernel_rfl
            case h4t10 => kernel_rfl
            case h6t10 => (refine Or.inl ⟨by rfl, ?_⟩; intro w hSw; (try dsimp only at hSw); (go_simp <;> with_reducible rfl))
            case h5t10 => exact fun _ _ _ h => h
            try simp only [Act.put, List.setIfInBounds_toArray, List.set_cons_zero, List.set_cons_succ]
            refine wpAnyH_ready (rs := [10]) (by kernel_rfl) (by simp) (AllReadyH.cons (o := ?oot11) ?hit11 (fun K hK => ?hkt11) AllReadyH.nil)
            rotate_left
            case hit11 => (simp only [List.getElem?_toArray, List.getElem?_cons_succ, List.getElem?_cons_zero]; rfl)
            (rw [if_pos (by rfl)]; go_simp; have F7 := Lib.hid (c2_new W6 (.int .i64 0) (.int .i64 0) 27); have E7 := kp3 ((Below.refl _ W6).alloc (Nat.le_refl _) (.cells #[.int .i64 0, .int .i64 0] 27)) hHeld; have L6 := hHeld.2.size; generalize W6.alloc (.cells #[.int .i64 0, .int .i64 0] 27) = W7 at F7 E7 ⊢; generalize W6.heap.size = gf at F7 L6 ⊢; refine hK.out _ _ (E7) (fun hHeld => ?_); clear hK K)
            try simp only [Act.put, List.setIfInBounds_toArray, List.set_cons_zero, List.set_cons_succ]
            refine wpAnyH_ready (rs := [11]) (by kernel_rfl) (by simp) (AllReadyH.cons (o := ?oot12) ?hit12 (fun K hK => ?hkt12) AllReadyH.nil)
            rotate_left
            case hit12 => (simp only [List.getElem?_toArray, List.getElem?_cons_succ, List.getElem?_cons_zero]; rfl)
            (rw [if_pos (by rfl)]; obtain ⟨fc0, fc1, ff0, ff1, fz⟩ := F7.out; go_simp; have F8 := Lib.hid (c2_set F7.out (.int .i64 (x)) (.int .i64 (y))); have E8 := kp3S hHeld L6 (.int .i64 (x)) (.int .i64 (y)) hgw hgh hgh; generalize World.setCell (World.setCell _ ⟨gf, 0, none⟩ (.int .i64 (x))) ⟨gf, 1, none⟩ (.int .i64 (y)) = W8 at F8 E8 ⊢; clear fc0 fc1 ff0 ff1 fz F7; refine hK.out _ _ (E8) (fun hHeld => ?_); clear hK K)
            try simp only [Act.put, List.setIfInBounds_toArray, List.set_cons_zero, List.set_cons_succ]
            refine wpAnyH_take (i := 12) (oi := ?oot13) (v := ?vvt13) ?hit13 (by kernel_rfl) ?h3t13 ?h4t13 ?h5t13 ?h6t13 (by assumption) ?h8t13
            case hit13 => (simp only [List.getElem?_toArray, List.getElem?_cons_succ, List.getElem?_cons_zero]; rfl)
            case h3t13 => kernel_rfl
            case h4t13 => kernel_rfl
            case h6t13 => (refine Or.inl ⟨by rfl, ?_⟩; intro w hSw; (try dsimp only at hSw); (go_simp <;> with_reducible rfl))
            case h5t13 => exact fun _ _ _ h => h
            try simp only [Act.put, List.setIfInBounds_toArray, List.set_cons_zero, List.set_cons_succ]
            refine wpAnyH_done (by kernel_rfl) ?_ _
            obtain ⟨fc0, fc1, ff0, ff1, fz⟩ := F8.out
            obtain ⟨⟨_, d1, d2⟩, hB8⟩ := E8
            have HB8 := Lib.hid hB8
            clear hHeld hB8 cu c1 c2
            go_wp2_with fail
            go_quiet (fail)
            have B := bel_tr HB.out HB8.out
            have D := bel_tr HD.out HB8.out
            have E := bel_tr HE.out HB8.out
            go_wp2_with fail
            go_roundw
            case rel => exact ⟨k + 1, by omega, by go_num, below_drewN B _, below_drewN D _, below_drewN E _⟩
            case measure => simp [intOf]; omega
          case hkt7q1 =>
            (rw [if_pos (by rfl)]; go_simp; have F7 := Lib.hid (c2_new W5 (.int .i64 0) (.int .i64 0) 27); have E7 := kp3 ((Below.refl _ W5).alloc (Nat.le_refl _) (.cells #[.int .i64 0, .int .i64 0] 27)) hHeld; have L6 := hHeld.2.size; generalize W5.alloc (.cells #[.int .i64 0, .int .i64 0] 27) = W7 at F7 E7 ⊢; generalize W5.heap.size = gf at F7 L6 ⊢; refine hK.out _ _ (E7) (fun hHeld => ?_); clear hK K)
            try simp only [Act.put, List.setIfInBounds_toArray, List.set_cons_zero, List.set_cons_succ]
            refine wpAnyH_ready (rs := [6]) (by kernel_rfl) (by simp) (AllReadyH.cons (o := ?oot15) ?hit15 (fun K hK => ?hkt15) AllReadyH.nil)
            rotate_left
            case hit15 => (simp only [List.getElem?_toArray, List.getElem?_cons_succ, List.getElem?_cons_zero]; rfl)
            (rw [if_pos (by rfl)]; go_simp; refine (CMK _).mono ?_; rintro e W6 ⟨rfl, hb6⟩; replace F7 := Lib.hid (c2_below F7.out hb6); go_wp2_with fail; refine hK.out _ _ (kp3 hb6 hHeld) (fun hHeld => ?_); clear hK K)
            try simp only [Act.put, List.setIfInBounds_toArray, List.set_cons_zero, List.set_cons_succ]
            refine wpAnyH_take (i := 7) (oi := ?oot16) (v := ?vvt16) ?hit16 (by kernel_rfl) ?h3t16 ?h4t16 ?h5t16 ?h6t16 (by assumption) ?h8t16
            case hit16 => (simp only [List.getElem?_toArray, List.getElem?_cons_succ, List.getElem?_cons_zero]; rfl)
            case h3t16 => kernel_rfl
            case h4t16 => kernel_rfl
            case h6t16 => (refine Or.inl ⟨by rfl, ?_⟩; intro w hSw; (try dsimp only at hSw); (go_simp <;> with_reducible rfl))
            case h5t16 => exact fun _ _ _ h => h
            try simp only [Act.put, List.setIfInBounds_toArray, List.set_cons_zero, List.set_cons_succ]
            refine wpAnyH_take (i := 8) (oi := ?oot17) (v := ?vvt17) ?hit17 (by kernel_rfl) ?h3t17 ?h4t17 ?h5t17 ?h6t17 (by assumption) ?h8t17
            case hit17 => (simp only [List.getElem?_toArray, List.getElem?_cons_succ, List.getElem?_cons_zero]; rfl)
            case h3t17 => kernel_rfl
            case h4t17 => kernel_rfl
            case h6t17 => (refine Or.inl ⟨by rfl, ?_⟩; intro w hSw; (try dsimp only at hSw); (go_simp <;> with_reducible rfl))
            case h5t17 => exact fun _ _ _ h => h
            try simp only [Act.put, List.setIfInBounds_toArray, List.set_cons_zero, List.set_cons_succ]
            refine wpAnyH_take (i := 9) (oi := ?oot18) (v := ?vvt18) ?hit18 (by kernel_rfl) ?h3t18 ?h4t18 ?h5t18 ?h6t18 (by assumption) ?h8t18
            case hit18 => (simp only [List.getElem?_toArray, List.getElem?_cons_succ, List.getElem?_cons_zero]; rfl)
            case h3t18 => kernel_rfl
            case h4t18 => kernel_rfl
            case h6t18 => (refine Or.inl ⟨by rfl, ?_⟩; intro w hSw; (try dsimp only at hSw); (go_simp <;> with_reducible rfl))
            case h5t18 => exact fun _ _ _ h => h
            try simp only [Act.put, List.setIfInBounds_toArray, List.set_cons_zero, List.set_cons_succ]
            refine wpAnyH_ready (rs := [11]) (by kernel_rfl) (by simp) (AllReadyH.cons (o := ?oot19) ?hit19 (fun K hK => ?hkt19) AllReadyH.nil)
            rotate_left
            case hit19 => (simp only [List.getElem?_toArray, List.getElem?_cons_succ, List.getElem?_cons_zero]; rfl)
            (rw [if_pos (by rfl)]; obtain ⟨fc0, fc1, ff0, ff1, fz⟩ := F7.out; go_simp; have F8 := Lib.hid (c2_set F7.out (.int .i64 (x)) (.int .i64 (y))); have E8 := kp3S hHeld L6 (.int .i64 (x)) (.int .i64 (y)) hgw hgh hgh; generalize World.setCell (World.setCell _ ⟨gf, 0, none⟩ (.int .i64 (x))) ⟨gf, 1, none⟩ (.int .i64 (y)) = W8 at F8 E8 ⊢; clear fc0 fc1 ff0 ff1 fz F7; refine hK.out _ _ (E8) (fun hHeld => ?_); clear hK K)
            try simp only [Act.put, List.setIfInBounds_toArray, List.set_cons_zero, List.set_cons_succ]
            refine wpAnyH_take (i := 12) (oi := ?oot20) (v := ?vvt20) ?hit20 (by kernel_rfl) ?h3t20 ?h4t20 ?h5t20 ?h6t20 (by assumption) ?h8t20
            case hit20 => (simp only [List.getElem?_toArray, List.getElem?_cons_succ, List.getElem?_cons_zero]; rfl)
            case h3t20 => kernel_rfl
            case h4t20 => kernel_rfl
            case h6t20 => (refine Or.inl ⟨by rfl, ?_⟩; intro w hSw; (try dsimp only at hSw); (go_simp <;> with_reducible rfl))
            case h5t20 => exact fun _ _ _ h => h
            try simp only [Act.put, List.setIfInBounds_toArray, List.set_cons_zero, List.set_cons_succ]
            refine wpAnyH_done (by kernel_rfl) ?_ _
            obtain ⟨fc0, fc1, ff0, ff1, fz⟩ := F8.out
            obtain ⟨⟨_, d1, d2⟩, hB8⟩ := E8
            have HB8 := Lib.hid hB8
            clear hHeld hB8 cu c1 c2
            go_wp2_with fail
            go_quiet (fail)
            have B := bel_tr HB.out HB8.out
            have D := bel_tr HD.out HB8.out
            have E := bel_tr HE.out HB8.out
            go_wp2_with fail
            go_roundw
            case rel => exact ⟨k + 1, by omega, by go_num, below_drewN B _, below_drewN D _, below_drewN E _⟩
            case measure => simp [intOf]; omega
        case hkt6q1 =>
          (rw [if_pos (by rfl)]; go_simp; have F7 : Hid (Cell2 (wr.alloc (.cells #[.int .i64 0, .int .i64 0] 27)).drew wr.heap.size (.int .i64 0) (.int .i64 0)) := c2_new wr (.int .i64 0) (.int .i64 0) 27; have E7 := kp3A (.cells #[.int .i64 0, .int .i64 0] 27) ⟨cu, c1, c2⟩; have L6 : wr.heap.size ≤ wr.heap.size := Nat.le_refl _; generalize (wr.alloc (.cells #[.int .i64 0, .int .i64 0] 27)).drew = W7 at F7 E7 ⊢; obtain ⟨gf, hgf⟩ : ∃ gf, gf = wr.heap.size := ⟨_, rfl⟩; rw [← hgf] at F7 ⊢; replace L6 : wr.heap.size ≤ gf := (by omega); clear hgf; refine hK.out _ _ (E7) (fun hHeld => ?_); clear hK K)
          try simp only [Act.put, List.setIfInBounds_toArray, List.set_cons_zero, List.set_cons_succ]
          refine wpAnyH_ready (rs := [5]) (by kernel_rfl) (by simp) (AllReadyH.cons (o := ?oot22) ?hit22 (fun K hK => ?hkt22) AllReadyH.nil)
          rotate_left
          case hit22 => (simp only [List.getElem?_toArray, List.getElem?_cons_succ, List.getElem?_cons_zero]; rfl)
          (rw [if_pos (by rfl)]; go_simp; refine (CD _ (bel_tr HD.out hHeld.2)).mono ?_; rintro e W5 ⟨rfl, hb5⟩; replace F7 := Lib.hid (c2_below F7.out hb5); go_wp2_with fail; refine hK.out _ _ (kp3 hb5 hHeld) (fun hHeld => ?_); clear hK K)
          try simp only [Act.put, List.setIfInBounds_toArray, List.set_cons_zero, List.set_cons_succ]
          refine wpAnyH_ready (rs := [6]) (by kernel_rfl) (by simp) (AllReadyH.cons (o := ?oot23) ?hit23 (fun K hK => ?hkt23) AllReadyH.nil)
          rotate_left
          case hit23 => (simp only [List.getElem?_toArray, List.getElem?_cons_succ, List.getElem?_cons_zero]; rfl)
          (rw [if_pos (by rfl)]; go_simp; refine (CMK _).mono ?_; rintro e W6 ⟨rfl, hb6⟩; replace F7 := Lib.hid (c2_below F7.out hb6); go_wp2_with fail; refine hK.out _ _ (kp3 hb6 hHeld) (fun hHeld => ?_); clear hK K)
          try simp only [Act.put, List.setIfInBounds_toArray, List.set_cons_zero, List.set_cons_succ]
          refine wpAnyH_take (i := 7) (oi := ?oot24) (v := ?vvt24) ?hit24 (by kernel_rfl) ?h3t24 ?h4t24 ?h5t24 ?h6t24 (by assumption) ?h8t24
          case hit24 => (simp only [List.getElem?_toArray, List.getElem?_cons_succ, List.getElem?_cons_zero]; rfl)
          case h3t24 => kernel_rfl
          case h4t24 => kernel_rfl
          case h6t24 => (refine Or.inl ⟨by rfl, ?_⟩; intro w hSw; (try dsimp only at hSw); (go_simp <;> with_reducible rfl))
          case h5t24 => exact fun _ _ _ h => h
          try simp only [Act.put, List.setIfInBounds_toArray, List.set_cons_zero, List.set_cons_succ]
          refine wpAnyH_take (i := 8) (oi := ?oot25) (v := ?vvt25) ?hit25 (by kernel_rfl) ?h3t25 ?h4t25 ?h5t25 ?h6t25 (by assumption) ?h8t25
          case hit25 => (simp only [List.getElem?_toArray, List.getElem?_cons_succ, List.getElem?_cons_zero]; rfl)
          case h3t25 => kernel_rfl
          case h4t25 => kernel_rfl
          case h6t25 => (refine Or.inl ⟨by rfl, ?_⟩; intro w hSw; (try dsimp only at hSw); (go_simp <;> with_reducible rfl))
          case h5t25 => exact fun _ _ _ h => h
          try simp only [Act.put, List.setIfInBounds_toArray, List.set_cons_zero, List.set_cons_succ]
          refine wpAnyH_take (i := 9) (oi := ?oot26) (v := ?vvt26) ?hit26 (by kernel_rfl) ?h3t26 ?h4t26 ?h5t26 ?h6t26 (by assumption) ?h8t26
          case hit26 => (simp only [List.getElem?_toArray, List.getElem?_cons_succ, List.getElem?_cons_zero]; rfl)
          case h3t26 => kernel_rfl
          case h4t26 => kernel_rfl
          case h6t26 => (refine Or.inl ⟨by rfl, ?_⟩; intro w hSw; (try dsimp only at hSw); (go_simp <;> with_reducible rfl))
          case h5t26 => exact fun _ _ _ h => h
          try simp only [Act.put, List.setIfInBounds_toArray, List.set_cons_zero, List.set_cons_succ]
          refine wpAnyH_ready (rs := [11]) (by kernel_rfl) (by simp) (AllReadyH.cons (o := ?oot27) ?hit27 (fun K hK => ?hkt27) AllReadyH.nil)
          rotate_left
          case hit27 => (simp only [List.getElem?_toArray, List.getElem?_cons_succ, List.getElem?_cons_zero]; rfl)
          (rw [if_pos (by rfl)]; obtain ⟨fc0, fc1, ff0, ff1, fz⟩ := F7.out; go_simp; have F8 := Lib.hid (c2_set F7.out (.int .i64 (x)) (.int .i64 (y))); have E8 := kp3S hHeld L6 (.int .i64 (x)) (.int .i64 (y)) hgw hgh hgh; generalize World.setCell (World.setCell _ ⟨gf, 0, none⟩ (.int .i64 (x))) ⟨gf, 1, none⟩ (.int .i64 (y)) = W8 at F8 E8 ⊢; clear fc0 fc1 ff0 ff1 fz F7; refine hK.out _ _ (E8) (fun hHeld => ?_); clear hK K)
          try simp only [Act.put, List.setIfInBounds_toArray, List.set_cons_zero, List.set_cons_succ]
          refine wpAnyH_take (i := 12) (oi := ?oot28) (v := ?vvt28) ?hit28 (by kernel_rfl) ?h3t28 ?h4t28 ?h5t28 ?h6t28 (by assumption) ?h8t28
          case hit28 => (simp only [List.getElem?_toArray, List.getElem?_cons_succ, List.getElem?_cons_zero]; rfl)
          case h3t28 => kernel_rfl
          case h4t28 => kernel_rfl
          case h6t28 => (refine Or.inl ⟨by rfl, ?_⟩; intro w hSw; (try dsimp only at hSw); (go_simp <;> with_reducible rfl))
          case h5t28 => exact fun _ _ _ h => h
          try simp only [Act.put, List.setIfInBounds_toArray, List.set_cons_zero, List.set_cons_succ]
          refine wpAnyH_done (by kernel_rfl) ?_ _
          obtain ⟨fc0, fc1, ff0, ff1, fz⟩ := F8.out
          obtain ⟨⟨_, d1, d2⟩, hB8⟩ := E8
          have HB8 := Lib.hid hB8
          clear hHeld hB8 cu c1 c2
          go_wp2_with fail
          go_quiet (fail)
          have B := bel_tr HB.out HB8.out
          have D := bel_tr HD.out HB8.out
          have E := bel_tr HE.out HB8.out
          go_wp2_with fail
          go_roundw
          case rel => exact ⟨k + 1, by omega, by go_num, below_drewN B _, below_drewN D _, below_drewN E _⟩
          case measure => simp [intOf]; omega
      · obtain rfl : k = hs.length := by omega
        go_wp2_with fail
        go_ret
        exact ⟨rfl, B⟩

set_option maxRecDepth 100000 in
theorem lifted (os : Os) (started : os.Started) (H : Type) (enc : TypeId × Value → H) :
    ReturnsInHanded {} Try.checked os 10 .any (Rows.fnUnitsOfSpec.pre6 enc Try.prog Try.f10 Rows.fnUnitsOfRow.domain false) (Rows.fnUnitsOfSpec.post enc Try.prog Try.f10 false true false false) := by
  refine returnsInHanded_of_change (C := Try.checked) own started (by kernel_rfl) Try.func10
    (ChangeSpec.witness6 (enc := enc) (C := Try.checked) false ⟨#[], #[.slice none 0 0], []⟩ 8 (by kernel_rfl) (by kernel_rfl) (by kernel_rfl) (by kernel_rfl)) ?_
  intro W base args ds gs before hval0 hW hcnd _
  have hval : ∀ (j : Nat) t v, Try.f10.params[j]? = some t → args[j]? = some v → Value.okWide Try.prog W .any base t v := hval0
  have hW' := hW
  obtain ⟨p, q, hA0, hV, rfl, hfz, hnd⟩ := hW
  have hA : DataW.TrodAll enc Try.prog W 0 (fun _ => true) true Try.f10.params.toList args.toList ds p := hA0
  rw [Try.params10] at hA hval
  obtain ⟨v0, vs0, e0, es0, p0, q0, hargs, rfl, rfl, h0, r0⟩ := trodAll_cons hA
  obtain ⟨rfl, rfl, rfl⟩ := trodAll_nil r0
  obtain rfl : args = #[v0] := by cases args; simp_all
  obtain ⟨rfl, rfl⟩ := trodVars_none hV
  have k0 := h0
  have lt0 : ∀ x ∈ p0, x.block < W.heap.size := by obtain ⟨m, hm⟩ := k0; exact DataW.trod_lt m _ _ _ hm
  obtain ⟨a0, len0, cap0, rfl⟩ := okWide_slice Try.underlying22 (hval 0 22 v0 rfl rfl)
  obtain ⟨z0, w0⟩ : ∃ zs, IsRow .u8 W a0 len0 cap0 zs := by
    obtain ⟨fuel, hf⟩ := h0
    rcases open_ints Try.underlying22 Try.underlying5 (by kernel_rfl) hf with ⟨hcs, _⟩ | ⟨x, l, c, zs, hcs, _, hl, hm, hz, _, hcell, hwz⟩
    · simp [Value.cells] at hcs
      obtain ⟨rfl, rfl, rfl⟩ := hcs
      exact ⟨[], .inl ⟨rfl, rfl, rfl, rfl⟩⟩
    · simp [Value.cells] at hcs
      obtain ⟨rfl, rfl, rfl⟩ := hcs
      exact ⟨zs, .inr ⟨_, rfl, hl, hm, by simpa using hz, hcell, hwz⟩⟩
  clear hA0 hval0
  refine (walk a0 len0 cap0 z0 W w0).mono fun e W' ⟨he, bel⟩ => ?_
  subst he
  exact ⟨_, rfl, _, _, _, [], _, [], hW', trodAll_mk1 (shut_bool Try.underlying4 _), (trodAll_cons_mk (Below.trod laidOut (by kernel_rfl) (of_decide_eq_true (by kernel_rfl)) k0 bel lt0) trodAll_mk0), rfl, bel.frame _, fun h => by cases h⟩

theorem over : Rows.fnUnitsOfRow.holds Try.pinned (OpenSpec.ofChange Rows.fnUnitsOfSpec) :=
  OpenClaim.holds_of_wide 10 Try.f10 rfl rfl rfl rfl rfl rfl rfl ⟨rfl, rfl, rfl, rfl, rfl⟩ rfl rfl rfl rfl rfl (by kernel_rfl) Try.func10 (by kernel_rfl)
    (of_decide_eq_true (by kernel_rfl)) (by unfold Func.isWrapper; first | (rw [if_pos (by decide +kernel)]; kernel_rfl) | (rw [if_neg (by decide +kernel)]; exact ⟨rfl, rfl⟩))
    (fun os started H enc _ => lifted os started H enc)

end Go.Proofs.Ytppnhhnilnikfaa.fnUnitsOf
namespace Go.Proofs.Ytppnhhnilnikfaa
/-- the statement -/
theorem fnUnitsOf_holds : Rows.FnUnitsOfSaid := fnUnitsOf.over
end Go.Proofs.Ytppnhhnilnikfaa
