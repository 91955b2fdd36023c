/- For every input the law answers true, and its argument reads afterwards as before: ledgers are whole. No condition. -/
import Derived.Test.YtppnhhnilnikfaaRows
import Derived.Test.YtppnhhnilnikfaaDrawHf
import Derived.Test.YtppnhhnilnikfaaLedN
import Derived.Test.YtppnhhnilnikfaaEqH
import Derived.Test.YtppnhhnilnikfaaKeep
import Derived.Test.YtppnhhnilnikfaaHoldW
import Derived.Test.YtppnhhnilnikfaaFrac
import Derived.WalkKit
import Derived.Deep.RegionHeld3
import Derived.Deep.QuietTactic
import Derived.ProofKit
import Derived.OpenShut
import Derived.ShutString
import Derived.ChangeOld
import Derived.Below
import Derived.Lib.SmallJoins
namespace Go.Proofs.Ytppnhhnilnikfaa.fnValidLedger
open Go.ChangeShapes Go.WideShapes Go.ChangeAt Go.RowKit Go.Joins
open Go.ChangeMaps (open_string shut_string)
set_option linter.unusedVariables false
set_option linter.unusedSimpArgs false

theorem own : ownKnob Try.prog.godebug = none := by kernel_rfl
theorem laidOut : laidOutB Try.prog = true := by kernel_rfl

set_option maxRecDepth 100000 in
set_option maxHeartbeats 6000000 in
theorem walk (a0 : Option Addr) (len0 cap0 : Nat) (z0 : List Int) (w : World) (w0 : IsRow .u8 w a0 len0 cap0 z0) :
    Calls Try.prog 3 #[.slice a0 len0 cap0] w fun e w' => e = .returned (.bool true) ∧ Below w.heap.size w w' := by
  by_cases big : (1048576 : Int) < (len0 : Int)
  · go_enter Try.func3, Try.ntmps3
    go_wp2
    go_ret
    exact ⟨rfl, Below.refl _ _⟩
  go_enter Try.func3, Try.ntmps3
  go_wp2_with fail
  refine (drawValidLedger a0 len0 cap0 z0 _ w0).mono ?_
  rintro e u1 ⟨b, cp, hs, rfl, hl6, hlc, hi, B⟩
  clear w0 big
  have hwu := B.size
  have n1 : hs.length ≤ 1048576 := by omega
  have HI := Lib.hid hi
  have D := Below.refl u1.heap.size u1
  clear hi
  cases hv : vlR hs with
  | false =>
    have CI : ∀ W, Below u1.heap.size u1 W → Calls Try.prog 12 #[.slice b hs.length cp] W fun e w' => e = .returned (.bool false) ∧ Below W.heap.size W w' := fun W hW => by
      have := iVL b cp hs W (hs_below HI.out hW) n1
      rw [hv] at this; exact this
    have CS : ∀ W, Below u1.heap.size u1 W → Calls Try.prog 13 #[.slice b hs.length cp] W fun e w' => e = .returned (.bool false) ∧ Below W.heap.size W w' := fun W hW => by
      have := sVL b cp hs W (hs_below HI.out hW) n1
      rw [hv] at this; exact this
    clear hv
    go_wp2_with fail
    refine (CI _ D).mono ?_
    rintro e u ⟨rfl, C⟩
    replace B := bel_tr B C
    replace D := bel_tr D C
    clear C
    go_wp2_with fail
    refine (CS _ D).mono ?_
    rintro e u ⟨rfl, C⟩
    replace B := bel_tr B C
    replace D := bel_tr D C
    clear C
    go_wp2_with fail
    refine (CS _ D).mono ?_
    rintro e u ⟨rfl, C⟩
    replace B := bel_tr B C
    replace D := bel_tr D C
    clear C
    go_wp2_with fail
    go_ret
    exact ⟨rfl, B⟩
  | true =>
    have CI : ∀ W, Below u1.heap.size u1 W → Calls Try.prog 12 #[.slice b hs.length cp] W fun e w' => e = .returned (.bool true) ∧ Below W.heap.size W w' := fun W hW => by
      have := iVL b cp hs W (hs_below HI.out hW) n1
      rw [hv] at this; exact this
    have CS : ∀ W, Below u1.heap.size u1 W → Calls Try.prog 13 #[.slice b hs.length cp] W fun e w' => e = .returned (.bool true) ∧ Below W.heap.size W w' := fun W hW => by
      have := sVL b cp hs W (hs_below HI.out hW) n1
      rw [hv] at this; exact this
    have hne : 1 ≤ hs.length := vl_some hv
    obtain ⟨⟨a0', a1', a2', a3'⟩, hlaw⟩ := vl_law hv
    have HL := Lib.hid hlaw
    have HZ := Lib.hid (And.intro a0' (And.intro a1' (And.intro a2' a3')))
    have hcl : IsHs u1 b hs := HI.out
    rcases hcl with rfl | ⟨g, oo, rfl, hc⟩
    · simp at hne
    have HC := Lib.hid hc
    have HSH : ∀ q W, Below u1.heap.size u1 W → Calls Try.prog 15 #[.slice (some ⟨g, oo, none⟩) hs.length cp, .int .i64 q] W (ShareO W hs q) := fun q W hW => iShareOf _ cp hs q W (hs_below HI.out hW) n1
    have HVL : ∀ k, k ≤ hs.length → vlR (hs.take k) = false → ∀ W, Below u1.heap.size u1 W → Calls Try.prog 12 #[.slice (some ⟨g, oo, none⟩) k cp] W fun e w' => e = .returned (.bool false) ∧ Below W.heap.size W w' := fun k hk hf W hW => by
      have hl : (hs.take k).length = k := by rw [List.length_take]; omega
      have := iVL (some ⟨g, oo, none⟩) cp (hs.take k) W (hs_below (hs_take HC.out k) hW) (by omega)
      rw [hl, hf] at this; exact this
    clear hv hlaw a0' a1' a2' a3' hc
    go_wp2_with fail
    refine (CI _ D).mono ?_
    rintro e u ⟨rfl, C⟩
    replace B := bel_tr B C
    replace D := bel_tr D C
    clear C
    go_wp2_with fail
    refine (CS _ D).mono ?_
    rintro e u ⟨rfl, C⟩
    replace B := bel_tr B C
    replace D := bel_tr D C
    clear C
    go_wp2_with fail
    clear CI CS
    have G0 := c2_new u (.int .i64 0) (.int .i64 1) 27
    have B0 := B.alloc B.size (.cells #[.int .i64 0, .int .i64 1] 27)
    have D0 := D.alloc D.size (.cells #[.int .i64 0, .int .i64 1] 27)
    have hgu : u1.heap.size ≤ u.heap.size := D.size
    clear B D
    generalize u.alloc (.cells #[.int .i64 0, .int .i64 1] 27) = U at G0 B0 D0 ⊢
    generalize u.heap.size = gs at G0 hgu ⊢
    go_loopw [6] (fun x wr => ∃ k : Nat, k ≤ hs.length ∧ x = .int .i64 k ∧ Cell2 wr gs (.int .i64 (sN hs k)) (.int .i64 (sD hs k)) ∧ Below w.heap.size w wr ∧ Below u1.heap.size u1 wr) (fun x _ => hs.length - (intOf x).toNat)
    case atStart => exact ⟨0, Nat.zero_le _, rfl, by rw [HZ.out.1, HZ.out.2.1]; exact G0, B0, D0⟩
    case round =>
      clear G0 B0 D0
      obtain ⟨k, hk, rfl, G, B, D⟩ := hrel
      by_cases hlt : k < hs.length
      · obtain ⟨c0, _, _⟩ := hs_at HC.out D hlt
        obtain ⟨m1, m2, m3⟩ := HL.out k hlt
        have CV := HVL k hk m3
        have CSH := HSH (hs.getD k hd0).1
        unfold ShareO at CSH
        rw [m2] at CSH
        have CAD : ∀ W, _ := fun W => iAdd (sN hs k) (sD hs k) (hs.getD k hd0).2.1 (hs.getD k hd0).2.2 W
        rw [m1] at CAD
        obtain ⟨sn', hsn⟩ : ∃ z, sN hs (k + 1) = z := ⟨_, rfl⟩
        obtain ⟨sd', hsd⟩ : ∃ z, sD hs (k + 1) = z := ⟨_, rfl⟩
        rw [hsn, hsd] at CAD
        have HSN := Lib.hid (And.intro hsn hsd)
        clear hsn hsd m1 m2 m3
        generalize sN hs k = sn at CAD G
        generalize sD hs k = sd at CAD G
        generalize hs.getD k hd0 = hh at c0 CSH CAD
        obtain ⟨x, y, z⟩ := hh
        dsimp only at c0 CSH CAD
        have HG := Lib.hid G
        obtain ⟨s0, s1, _, _, hgs⟩ := G
        have hgh := World.block_lt_of_cell? wr _ c0
        have k0 : (0 : Int) ≤ (k : Int) := by omega
        have k1 : (k : Int) < (hs.length : Int) := by omega
        have HB := Lib.hid B
        have HD := Lib.hid D
        clear B D HVL HSH
        go_wp2_with fail
        refine wp_region_held_drew (S := (fun w' => (w'.cell? ⟨gs, 0, none⟩ = some (.int .i64 sn) ∧ w'.cell? ⟨gs, 1, none⟩ = some (.int .i64 sd) ∧ w'.cell? ⟨g, oo + k * 3, none⟩ = some (.int .i64 x)) ∧ Below wr.heap.size wr w')) (by kernel_rfl) ?_ (fun hHeld => ?_)
        · exact ⟨⟨s0, s1, c0⟩, (Below.refl _ _).drew⟩
        refine wpAnyH_take (i := 0) (oi := ?oot30) (v := ?vvt30) ?hit30 (by kernel_rfl) ?h3t30 ?h4t30 ?h5t30 ?h6t30 (by assumption) ?h8t30
        case hit30 => (simp only [List.getElem?_toArray, List.getElem?_cons_succ, List.getElem?_cons_zero]; rfl)
        case h3t30 => kernel_rfl
        case h4t30 => kernel_rfl
        case h6t30 => (refine Or.inl ⟨by rfl, ?_⟩; intro w hSw; (try dsimp only at hSw); (go_simp <;> with_reducible rfl))
        case h5t30 => exact fun _ _ _ h => h
        try simp only [Act.put, List.setIfInBounds_toArray, List.set_cons_zero, List.set_cons_succ]
        refine wpAnyH_take (i := 1) (oi := ?oot31) (v := ?vvt31) ?hit31 (by kernel_rfl) ?h3t31 ?h4t31 ?h5t31 ?h6t31 (by assumption) ?h8t31
        case hit31 => (simp only [List.getElem?_toArray, List.getElem?_cons_succ, List.getElem?_cons_zero]; rfl)
        case h3t31 => kernel_rfl
        case h4t31 => kernel_rfl
        case h6t31 => (refine Or.inl ⟨by rfl, ?_⟩; intro w hSw; (try dsimp only at hSw); (go_simp <;> with_reducible rfl))
        case h5t31 => exact fun _ _ _ h => h
        try simp only [Act.put, List.setIfInBounds_toArray, List.set_cons_zero, List.set_cons_succ]
        refine wpAnyH_take (i := 2) (oi := ?oot32) (v := ?vvt32) ?hit32 (by kernel_rfl) ?h3t32 ?h4t32 ?h5t32 ?h6t32 (by assumption) ?h8t32
        case hit32 => (simp only [List.getElem?_toArray, List.getElem?_cons_succ, List.getElem?_cons_zero]; rfl)
        case h3t32 => kernel_rfl
        case h4t32 => kernel_rfl
        case h6t32 => (refine Or.inl ⟨by rfl, ?_⟩; intro w hSw; (try dsimp only at hSw); (go_simp <;> with_reducible rfl))
        case h5t32 => exact fun _ _ _ h => h
        try simp only [Act.put, List.setIfInBounds_toArray, List.set_cons_zero, List.set_cons_succ]
        refine wpAnyH_take (i := 3) (oi := ?oot33) (v := ?vvt33) ?hit33 (by kernel_rfl) ?h3t33 ?h4t33 ?h5t33 ?h6t33 (by assumption) ?h8t33
        case hit33 => (simp only [List.getElem?_toArray, List.getElem?_cons_succ, List.getElem?_cons_zero]; rfl)
        case h3t33 => kernel_rfl
        case h4t33 => kernel_rfl
        case h6t33 => (refine Or.inl ⟨by rfl, ?_⟩; intro w hSw; (try dsimp only at hSw); (go_simp <;> with_reducible rfl))
        case h5t33 => exact fun _ _ _ h => h
        try simp only [Act.put, List.setIfInBounds_toArray, List.set_cons_zero, List.set_cons_succ]
        refine wpAnyH_take (i := 4) (oi := ?oot34) (v := ?vvt34) ?hit34 (by kernel_rfl) ?h3t34 ?h4t34 ?h5t34 ?h6t34 (by assumption) ?h8t34
        case hit34 => (simp only [List.getElem?_toArray, List.getElem?_cons_succ, List.getElem?_cons_zero]; rfl)
        case h3t34 => kernel_rfl
        case h4t34 => kernel_rfl
        case h6t34 => (refine Or.inl ⟨by rfl, ?_⟩; intro w hSw; (try dsimp only at hSw); (go_simp <;> with_reducible rfl))
        case h5t34 => exact fun _ _ _ h => h
        try simp only [Act.put, List.setIfInBounds_toArray, List.set_cons_zero, List.set_cons_succ]
        refine wpAnyH_take (i := 5) (oi := ?oot35) (v := ?vvt35) ?hit35 (by kernel_rfl) ?h3t35 ?h4t35 ?h5t35 ?h6t35 (by assumption) ?h8t35
        case hit35 => (simp only [List.getElem?_toArray, List.getElem?_cons_succ, List.getElem?_cons_zero]; rfl)
        case h3t35 => kernel_rfl
        case h4t35 => kernel_rfl
        case h6t35 => (refine Or.inl ⟨by rfl, ?_⟩; intro w hSw; (try dsimp only at hSw); (go_simp <;> with_reducible rfl))
        case h5t35 => exact fun _ _ _ h => h
        try simp only [Act.put, List.setIfInBounds_toArray, List.set_cons_zero, List.set_cons_succ]
        refine wpAnyH_take (i := 6) (oi := ?oot36) (v := ?vvt36) ?hit36 (by kernel_rfl) ?h3t36 ?h4t36 ?h5t36 ?h6t36 (by assumption) ?h8t36
        case hit36 => (simp only [List.getElem?_toArray, List.getElem?_cons_succ, List.getElem?_cons_zero]; rfl)
        case h3t36 => kernel_rfl
        case h4t36 => kernel_rfl
        case h6t36 => (refine Or.inl ⟨by rfl, ?_⟩; intro w hSw; (try dsimp only at hSw); (go_simp <;> with_reducible rfl))
        case h5t36 => exact fun _ _ _ h => h
        try simp only [Act.put, List.setIfInBounds_toArray, List.set_cons_zero, List.set_cons_succ]
        refine wpAnyH_ready (rs := [7, 12]) (by kernel_rfl) (by simp) (AllReadyH.cons (o := ?oot37q0) ?hit37q0 (fun K hK => ?hkt37q0) (AllReadyH.cons (o := ?oot37q1) ?hit37q1 (fun K hK => ?hkt37q1) AllReadyH.nil))
        case hit37q0 => (simp only [List.getElem?_toArray, List.getElem?_cons_succ, List.getElem?_cons_zero]; rfl)
        case hit37q1 => (simp only [List.getElem?_toArray, List.getElem?_cons_succ, List.getElem?_cons_zero]; rfl)
        case hkt37q0 =>
          (rw [if_pos (by rfl)]; go_simp; refine (CSH _ (bel_tr HD.out hHeld.2)).mono ?_; rintro e W5 ⟨rfl, hb5⟩; go_wp2_with fail; refine hK.out _ _ (kp3 hb5 hHeld) (fun hHeld => ?_); clear hK K)
          try simp only [Act.put, List.setIfInBounds_toArray, List.set_cons_zero, List.set_cons_succ]
          refine wpAnyH_ready (rs := [8, 12]) (by kernel_rfl) (by simp) (AllReadyH.cons (o := ?oot38q0) ?hit38q0 (fun K hK => ?hkt38q0) (AllReadyH.cons (o := ?oot38q1) ?hit38q1 (fun K hK => ?hkt38q1) AllReadyH.nil))
          case hit38q0 => (simp only [List.getElem?_toArray, List.getElem?_cons_succ, List.getElem?_cons_zero]; rfl)
          case hit38q1 => (simp only [List.getElem?_toArray, List.getElem?_cons_succ, List.getElem?_cons_zero]; rfl)
          case hkt38q0 =>
            (rw [if_pos (by rfl)]; go_simp; refine (CAD _).mono ?_; rintro e W6 ⟨rfl, hb6⟩; go_wp2_with fail; refine hK.out _ _ (kp3 hb6 hHeld) (fun hHeld => ?_); clear hK K)
            try simp only [Act.put, List.setIfInBounds_toArray, List.set_cons_zero, List.set_cons_succ]
            refine wpAnyH_take (i := 9) (oi := ?oot39) (v := ?vvt39) ?hit39 (by kernel_rfl) ?h3t39 ?h4t39 ?h5t39 ?h6t39 (by assumption) ?h8t39
            case hit39 => (simp only [List.getElem?_toArray, List.getElem?_cons_succ, List.getElem?_cons_zero]; rfl)
            case h3t39 => kernel_rfl
            case h4t39 => kernel_rfl
            case h6t39 => (refine Or.inl ⟨by rfl, ?_⟩; intro w hSw; (try dsimp only at hSw); (go_simp <;> with_reducible rfl))
            case h5t39 => exact fun _ _ _ h => h
            try simp only [Act.put, List.setIfInBounds_toArray, List.set_cons_zero, List.set_cons_succ]
            refine wpAnyH_take (i := 10) (oi := ?oot40) (v := ?vvt40) ?hit40 (by kernel_rfl) ?h3t40 ?h4t40 ?h5t40 ?h6t40 (by assumption) ?h8t40
            case hit40 => (simp only [List.getElem?_toArray, List.getElem?_cons_succ, List.getElem?_cons_zero]; rfl)
            case h3t40 => kernel_rfl
            case h4t40 => kernel_rfl
            case h6t40 => (refine Or.inl ⟨by rfl, ?_⟩; intro w hSw; (try dsimp only at hSw); (go_simp <;> with_reducible rfl))
            case h5t40 => exact fun _ _ _ h => h
            try simp only [Act.put, List.setIfInBounds_toArray, List.set_cons_zero, List.set_cons_succ]
            refine wpAnyH_take (i := 11) (oi := ?oot41) (v := ?vvt41) ?hit41 (by kernel_rfl) ?h3t41 ?h4t41 ?h5t41 ?h6t41 (by assumption) ?h8t41
            case hit41 => (simp only [List.getElem?_toArray, List.getElem?_cons_succ, List.getElem?_cons_zero]; rfl)
            case h3t41 => kernel_rfl
            case h4t41 => kernel_rfl
            case h6t41 => (refine Or.inl ⟨by rfl, ?_⟩; intro w hSw; (try dsimp only at hSw); (go_simp <;> with_reducible rfl))
            case h5t41 => exact fun _ _ _ h => h
            try simp only [Act.put, List.setIfInBounds_toArray, List.set_cons_zero, List.set_cons_succ]
            refine wpAnyH_ready (rs := [12]) (by kernel_rfl) (by simp) (AllReadyH.cons (o := ?oot42) ?hit42 (fun K hK => ?hkt42) AllReadyH.nil)
            rotate_left
            case hit42 => (simp only [List.getElem?_toArray, List.getElem?_cons_succ, List.getElem?_cons_zero]; rfl)
            (rw [if_pos (by rfl)]; go_simp; have F7 := Lib.hid (c2_new W6 (.int .i64 0) (.int .i64 0) 27); have E7 := kp3 ((Below.refl _ W6).alloc (Nat.le_refl _) (.cells #[.int .i64 0, .int .i64 0] 27)) hHeld; have L6 := hHeld.2.size; generalize W6.alloc (.cells #[.int .i64 0, .int .i64 0] 27) = W7 at F7 E7 ⊢; generalize W6.heap.size = gf at F7 L6 ⊢; refine hK.out _ _ (E7) (fun hHeld => ?_); clear hK K)
            try simp only [Act.put, List.setIfInBounds_toArray, List.set_cons_zero, List.set_cons_succ]
            refine wpAnyH_ready (rs := [13]) (by kernel_rfl) (by simp) (AllReadyH.cons (o := ?oot43) ?hit43 (fun K hK => ?hkt43) AllReadyH.nil)
            rotate_left
            case hit43 => (simp only [List.getElem?_toArray, List.getElem?_cons_succ, List.getElem?_cons_zero]; rfl)
            (rw [if_pos (by rfl)]; obtain ⟨fc0, fc1, ff0, ff1, fz⟩ := F7.out; go_simp; have F8 := Lib.hid (c2_set F7.out (.int .i64 (sn')) (.int .i64 (sd'))); have E8 := kp3S hHeld L6 (.int .i64 (sn')) (.int .i64 (sd')) hgs hgs hgh; generalize World.setCell (World.setCell _ ⟨gf, 0, none⟩ (.int .i64 (sn'))) ⟨gf, 1, none⟩ (.int .i64 (sd')) = W8 at F8 E8 ⊢; clear fc0 fc1 ff0 ff1 fz F7; refine hK.out _ _ (E8) (fun hHeld => ?_); clear hK K)
            try simp only [Act.put, List.setIfInBounds_toArray, List.set_cons_zero, List.set_cons_succ]
            refine wpAnyH_take (i := 14) (oi := ?oot44) (v := ?vvt44) ?hit44 (by kernel_rfl) ?h3t44 ?h4t44 ?h5t44 ?h6t44 (by assumption) ?h8t44
            case hit44 => (simp only [List.getElem?_toArray, List.getElem?_cons_succ, List.getElem?_cons_zero]; rfl)
            case h3t44 => kernel_rfl
            case h4t44 => kernel_rfl
            case h6t44 => (refine Or.inl ⟨by rfl, ?_⟩; intro w hSw; (try dsimp only at hSw); (go_simp <;> with_reducible rfl))
            case h5t44 => exact fun _ _ _ h => h
            try simp only [Act.put, List.setIfInBounds_toArray, List.set_cons_zero, List.set_cons_succ]
            refine wpAnyH_done (by kernel_rfl) ?_ _
            have hB8 := E8.2
            have G8 := c2_below HG.out hB8
            have F8o := F8.out
            have B8 := bel_tr HB.out hB8
            have D8 := bel_tr HD.out hB8
            clear E8 hHeld c0 hB8 F8 HB HD HG
            go_wp2_with fail
            refine (CV _ D8).mono ?_
            rintro e u9 ⟨rfl, C⟩
            have F9 := c2_below F8o C
            have G9 := c2_below G8 C
            have B9 := bel_tr B8 C
            have D9 := bel_tr D8 C
            have HG10 := Lib.hid (c2_set G9 (.int .i64 sn') (.int .i64 sd'))
            have HB10 := Lib.hid ((B9.setCell (p := ⟨gs, 0, none⟩) (Nat.le_trans hwu hgu) (.int .i64 sn')).setCell (p := ⟨gs, 1, none⟩) (Nat.le_trans hwu hgu) (.int .i64 sd'))
            have HD10 := Lib.hid ((D9.setCell (p := ⟨gs, 0, none⟩) hgu (.int .i64 sn')).setCell (p := ⟨gs, 1, none⟩) hgu (.int .i64 sd'))
            obtain ⟨fc0, fc1, ff0, ff1, fz⟩ := F9
            obtain ⟨gc0, gc1, gf0, gf1, gz⟩ := G9
            clear F8o G8 B8 D8 B9 D9 C
            go_wp2_with fail
            go_roundw
            case rel => exact ⟨k + 1, by omega, by go_num, by rw [HSN.out.1, HSN.out.2]; exact HG10.out, HB10.out, HD10.out⟩
            case measure => simp [intOf]; omega
          case hkt38q1 =>
            (rw [if_pos (by rfl)]; go_simp; have F7 := Lib.hid (c2_new W5 (.int .i64 0) (.int .i64 0) 27); have E7 := kp3 ((Below.refl _ W5).alloc (Nat.le_refl _) (.cells #[.int .i64 0, .int .i64 0] 27)) hHeld; have L6 := hHeld.2.size; generalize W5.alloc (.cells #[.int .i64 0, .int .i64 0] 27) = W7 at F7 E7 ⊢; generalize W5.heap.size = gf at F7 L6 ⊢; refine hK.out _ _ (E7) (fun hHeld => ?_); clear hK K)
            try simp only [Act.put, List.setIfInBounds_toArray, List.set_cons_zero, List.set_cons_succ]
            refine wpAnyH_ready (rs := [8]) (by kernel_rfl) (by simp) (AllReadyH.cons (o := ?oot46) ?hit46 (fun K hK => ?hkt46) AllReadyH.nil)
            rotate_left
            case hit46 => (simp only [List.getElem?_toArray, List.getElem?_cons_succ, List.getElem?_cons_zero]; rfl)
            (rw [if_pos (by rfl)]; go_simp; refine (CAD _).mono ?_; rintro e W6 ⟨rfl, hb6⟩; replace F7 := Lib.hid (c2_below F7.out hb6); go_wp2_with fail; refine hK.out _ _ (kp3 hb6 hHeld) (fun hHeld => ?_); clear hK K)
            try simp only [Act.put, List.setIfInBounds_toArray, List.set_cons_zero, List.set_cons_succ]
            refine wpAnyH_take (i := 9) (oi := ?oot47) (v := ?vvt47) ?hit47 (by kernel_rfl) ?h3t47 ?h4t47 ?h5t47 ?h6t47 (by assumption) ?h8t47
            case hit47 => (simp only [List.getElem?_toArray, List.getElem?_cons_succ, List.getElem?_cons_zero]; rfl)
            case h3t47 => kernel_rfl
            case h4t47 => kernel_rfl
            case h6t47 => (refine Or.inl ⟨by rfl, ?_⟩; intro w hSw; (try dsimp only at hSw); (go_simp <;> with_reducible rfl))
            case h5t47 => exact fun _ _ _ h => h
            try simp only [Act.put, List.setIfInBounds_toArray, List.set_cons_zero, List.set_cons_succ]
            refine wpAnyH_take (i := 10) (oi := ?oot48) (v := ?vvt48) ?hit48 (by kernel_rfl) ?h3t48 ?h4t48 ?h5t48 ?h6t48 (by assumption) ?h8t48
            case hit48 => (simp only [List.getElem?_toArray, List.getElem?_cons_succ, List.getElem?_cons_zero]; rfl)
            case h3t48 => kernel_rfl
            case h4t48 => kernel_rfl
            case h6t48 => (refine Or.inl ⟨by rfl, ?_⟩; intro w hSw; (try dsimp only at hSw); (go_simp <;> with_reducible rfl))
            case h5t48 => exact fun _ _ _ h => h
            try simp only [Act.put, List.setIfInBounds_toArray, List.set_cons_zero, List.set_cons_succ]
            refine wpAnyH_take (i := 11) (oi := ?oot49) (v := ?vvt49) ?hit49 (by kernel_rfl) ?h3t49 ?h4t49 ?h5t49 ?h6t49 (by assumption) ?h8t49
            case hit49 => (simp only [List.getElem?_toArray, List.getElem?_cons_succ, List.getElem?_cons_zero]; rfl)
            case h3t49 => kernel_rfl
            case h4t49 => kernel_rfl
            case h6t49 => (refine Or.inl ⟨by rfl, ?_⟩; intro w hSw; (try dsimp only at hSw); (go_simp <;> with_reducible rfl))
            case h5t49 => exact fun _ _ _ h => h
            try simp only [Act.put, List.setIfInBounds_toArray, List.set_cons_zero, List.set_cons_succ]
            refine wpAnyH_ready (rs := [13]) (by kernel_rfl) (by simp) (AllReadyH.cons (o := ?oot50) ?hit50 (fun K hK => ?hkt50) AllReadyH.nil)
            rotate_left
            case hit50 => (simp only [List.getElem?_toArray, List.getElem?_cons_succ, List.getElem?_cons_zero]; rfl)
            (rw [if_pos (by rfl)]; obtain ⟨fc0, fc1, ff0, ff1, fz⟩ := F7.out; go_simp; have F8 := Lib.hid (c2_set F7.out (.int .i64 (sn')) (.int .i64 (sd'))); have E8 := kp3S hHeld L6 (.int .i64 (sn')) (.int .i64 (sd')) hgs hgs hgh; generalize World.setCell (World.setCell _ ⟨gf, 0, none⟩ (.int .i64 (sn'))) ⟨gf, 1, none⟩ (.int .i64 (sd')) = W8 at F8 E8 ⊢; clear fc0 fc1 ff0 ff1 fz F7; refine hK.out _ _ (E8) (fun hHeld => ?_); clear hK K)
            try simp only [Act.put, List.setIfInBounds_toArray, List.set_cons_zero, List.set_cons_succ]
            refine wpAnyH_take (i := 14) (oi := ?oot51) (v := ?vvt51) ?hit51 (by kernel_rfl) ?h3t51 ?h4t51 ?h5t51 ?h6t51 (by assumption) ?h8t51
            case hit51 => (simp only [List.getElem?_toArray, List.getElem?_cons_succ, List.getElem?_cons_zero]; rfl)
            case h3t51 => kernel_rfl
            case h4t51 => kernel_rfl
            case h6t51 => (refine Or.inl ⟨by rfl, ?_⟩; intro w hSw; (try dsimp only at hSw); (go_simp <;> with_reducible rfl))
            case h5t51 => exact fun _ _ _ h => h
            try simp only [Act.put, List.setIfInBounds_toArray, List.set_cons_zero, List.set_cons_succ]
            refine wpAnyH_done (by kernel_rfl) ?_ _
            have hB8 := E8.2
            have G8 := c2_below HG.out hB8
            have F8o := F8.out
            have B8 := bel_tr HB.out hB8
            have D8 := bel_tr HD.out hB8
            clear E8 hHeld c0 hB8 F8 HB HD HG
            go_wp2_with fail
            refine (CV _ D8).mono ?_
            rintro e u9 ⟨rfl, C⟩
            have F9 := c2_below F8o C
            have G9 := c2_below G8 C
            have B9 := bel_tr B8 C
            have D9 := bel_tr D8 C
            have HG10 := Lib.hid (c2_set G9 (.int .i64 sn') (.int .i64 sd'))
            have HB10 := Lib.hid ((B9.setCell (p := ⟨gs, 0, none⟩) (Nat.le_trans hwu hgu) (.int .i64 sn')).setCell (p := ⟨gs, 1, none⟩) (Nat.le_trans hwu hgu) (.int .i64 sd'))
            have HD10 := Lib.hid ((D9.setCell (p := ⟨gs, 0, none⟩) hgu (.int .i64 sn')).setCell (p := ⟨gs, 1, none⟩) hgu (.int .i64 sd'))
            obtain ⟨fc0, fc1, ff0, ff1, fz⟩ := F9
            obtain ⟨gc0, gc1, gf0, gf1, gz⟩ := G9
            clear F8o G8 B8 D8 B9 D9 C
            go_wp2_with fail
            go_roundw
            case rel => exact ⟨k + 1, by omega, by go_num, by rw [HSN.out.1, HSN.out.2]; exact HG10.out, HB10.out, HD10.out⟩
            case measure => simp [intOf]; omega
        case hkt37q1 =>
          (rw [if_pos (by rfl)]; go_simp; have F7 : Hid (Cell2 (wr.alloc (.cells #[.int .i64 0, .int .i64 0] 27)).drew wr.heap.size (.int .i64 0) (.int .i64 0)) := c2_new wr (.int .i64 0) (.int .i64 0) 27; have E7 := kp3A (.cells #[.int .i64 0, .int .i64 0] 27) ⟨s0, s1, c0⟩; have L6 : wr.heap.size ≤ wr.heap.size := Nat.le_refl _; generalize (wr.alloc (.cells #[.int .i64 0, .int .i64 0] 27)).drew = W7 at F7 E7 ⊢; obtain ⟨gf, hgf⟩ : ∃ gf, gf = wr.heap.size := ⟨_, rfl⟩; rw [← hgf] at F7 ⊢; replace L6 : wr.heap.size ≤ gf := (by omega); clear hgf; refine hK.out _ _ (E7) (fun hHeld => ?_); clear hK K)
          try simp only [Act.put, List.setIfInBounds_toArray, List.set_cons_zero, List.set_cons_succ]
          refine wpAnyH_ready (rs := [7]) (by kernel_rfl) (by simp) (AllReadyH.cons (o := ?oot53) ?hit53 (fun K hK => ?hkt53) AllReadyH.nil)
          rotate_left
          case hit53 => (simp only [List.getElem?_toArray, List.getElem?_cons_succ, List.getElem?_cons_zero]; rfl)
          (rw [if_pos (by rfl)]; go_simp; refine (CSH _ (bel_tr HD.out hHeld.2)).mono ?_; rintro e W5 ⟨rfl, hb5⟩; replace F7 := Lib.hid (c2_below F7.out hb5); go_wp2_with fail; refine hK.out _ _ (kp3 hb5 hHeld) (fun hHeld => ?_); clear hK K)
          try simp only [Act.put, List.setIfInBounds_toArray, List.set_cons_zero, List.set_cons_succ]
          refine wpAnyH_ready (rs := [8]) (by kernel_rfl) (by simp) (AllReadyH.cons (o := ?oot54) ?hit54 (fun K hK => ?hkt54) AllReadyH.nil)
          rotate_left
          case hit54 => (simp only [List.getElem?_toArray, List.getElem?_cons_succ, List.getElem?_cons_zero]; rfl)
          (rw [if_pos (by rfl)]; go_simp; refine (CAD _).mono ?_; rintro e W6 ⟨rfl, hb6⟩; replace F7 := Lib.hid (c2_below F7.out hb6); go_wp2_with fail; refine hK.out _ _ (kp3 hb6 hHeld) (fun hHeld => ?_); clear hK K)
          try simp only [Act.put, List.setIfInBounds_toArray, List.set_cons_zero, List.set_cons_succ]
          refine wpAnyH_take (i := 9) (oi := ?oot55) (v := ?vvt55) ?hit55 (by kernel_rfl) ?h3t55 ?h4t55 ?h5t55 ?h6t55 (by assumption) ?h8t55
          case hit55 => (simp only [List.getElem?_toArray, List.getElem?_cons_succ, List.getElem?_cons_zero]; rfl)
          case h3t55 => kernel_rfl
          case h4t55 => kernel_rfl
          case h6t55 => (refine Or.inl ⟨by rfl, ?_⟩; intro w hSw; (try dsimp only at hSw); (go_simp <;> with_reducible rfl))
          case h5t55 => exact fun _ _ _ h => h
          try simp only [Act.put, List.setIfInBounds_toArray, List.set_cons_zero, List.set_cons_succ]
          refine wpAnyH_take (i := 10) (oi := ?oot56) (v := ?vvt56) ?hit56 (by kernel_rfl) ?h3t56 ?h4t56 ?h5t56 ?h6t56 (by assumption) ?h8t56
          case hit56 => (simp only [List.getElem?_toArray, List.getElem?_cons_succ, List.getElem?_cons_zero]; rfl)
          case h3t56 => kernel_rfl
          case h4t56 => kernel_rfl
          case h6t56 => (refine Or.inl ⟨by rfl, ?_⟩; intro w hSw; (try dsimp only at hSw); (go_simp <;> with_reducible rfl))
          case h5t56 => exact fun _ _ _ h => h
          try simp only [Act.put, List.setIfInBounds_toArray, List.set_cons_zero, List.set_cons_succ]
          refine wpAnyH_take (i := 11) (oi := ?oot57) (v := ?vvt57) ?hit57 (by kernel_rfl) ?h3t57 ?h4t57 ?h5t57 ?h6t57 (by assumption) ?h8t57
          case hit57 => (simp only [List.getElem?_toArray, List.getElem?_cons_succ, List.getElem?_cons_zero]; rfl)
          case h3t57 => kernel_rfl
          case h4t57 => kernel_rfl
          case h6t57 => (refine Or.inl ⟨by rfl, ?_⟩; intro w hSw; (try dsimp only at hSw); (go_simp <;> with_reducible rfl))
          case h5t57 => exact fun _ _ _ h => h
          try simp only [Act.put, List.setIfInBounds_toArray, List.set_cons_zero, List.set_cons_succ]
          refine wpAnyH_ready (rs := [13]) (by kernel_rfl) (by simp) (AllReadyH.cons (o := ?oot58) ?hit58 (fun K hK => ?hkt58) AllReadyH.nil)
          rotate_left
          case hit58 => (simp only [List.getElem?_toArray, List.getElem?_cons_succ, List.getElem?_cons_zero]; rfl)
          (rw [if_pos (by rfl)]; obtain ⟨fc0, fc1, ff0, ff1, fz⟩ := F7.out; go_simp; have F8 := Lib.hid (c2_set F7.out (.int .i64 (sn')) (.int .i64 (sd'))); have E8 := kp3S hHeld L6 (.int .i64 (sn')) (.int .i64 (sd')) hgs hgs hgh; generalize World.setCell (World.setCell _ ⟨gf, 0, none⟩ (.int .i64 (sn'))) ⟨gf, 1, none⟩ (.int .i64 (sd')) = W8 at F8 E8 ⊢; clear fc0 fc1 ff0 ff1 fz F7; refine hK.out _ _ (E8) (fun hHeld => ?_); clear hK K)
          try simp only [Act.put, List.setIfInBounds_toArray, List.set_cons_zero, List.set_cons_succ]
          refine wpAnyH_take (i := 14) (oi := ?oot59) (v := ?vvt59) ?hit59 (by kernel_rfl) ?h3t59 ?h4t59 ?h5t59 ?h6t59 (by assumption) ?h8t59
          case hit59 => (simp only [List.getElem?_toArray, List.getElem?_cons_succ, List.getElem?_cons_zero]; rfl)
          case h3t59 => kernel_rfl
          case h4t59 => kernel_rfl
          case h6t59 => (refine Or.inl ⟨by rfl, ?_⟩; intro w hSw; (try dsimp only at hSw); (go_simp <;> with_reducible rfl))
          case h5t59 => exact fun _ _ _ h => h
          try simp only [Act.put, List.setIfInBounds_toArray, List.set_cons_zero, List.set_cons_succ]
          refine wpAnyH_done (by kernel_rfl) ?_ _
          have hB8 := E8.2
          have G8 := c2_below HG.out hB8
          have F8o := F8.out
          have B8 := bel_tr HB.out hB8
          have D8 := bel_tr HD.out hB8
          clear E8 hHeld c0 hB8 F8 HB HD HG
          go_wp2_with fail
          refine (CV _ D8).mono ?_
          rintro e u9 ⟨rfl, C⟩
          have F9 := c2_below F8o C
          have G9 := c2_below G8 C
          have B9 := bel_tr B8 C
          have D9 := bel_tr D8 C
          have HG10 := Lib.hid (c2_set G9 (.int .i64 sn') (.int .i64 sd'))
          have HB10 := Lib.hid ((B9.setCell (p := ⟨gs, 0, none⟩) (Nat.le_trans hwu hgu) (.int .i64 sn')).setCell (p := ⟨gs, 1, none⟩) (Nat.le_trans hwu hgu) (.int .i64 sd'))
          have HD10 := Lib.hid ((D9.setCell (p := ⟨gs, 0, none⟩) hgu (.int .i64 sn')).setCell (p := ⟨gs, 1, none⟩) hgu (.int .i64 sd'))
          obtain ⟨fc0, fc1, ff0, ff1, fz⟩ := F9
          obtain ⟨gc0, gc1, gf0, gf1, gz⟩ := G9
          clear F8o G8 B8 D8 B9 D9 C
          go_wp2_with fail
          go_roundw
          case rel => exact ⟨k + 1, by omega, by go_num, by rw [HSN.out.1, HSN.out.2]; exact HG10.out, HB10.out, HD10.out⟩
          case measure => simp [intOf]; omega
      · obtain rfl : k = hs.length := by omega
        obtain ⟨s0, s1, _, _, hgs⟩ := G
        rw [HZ.out.2.2.1] at s0
        rw [HZ.out.2.2.2] at s1
        go_wp2_with fail
        go_ret
        exact ⟨rfl, B⟩

set_option maxRecDepth 100000 in
theorem lifted (os : Os) (started : os.Started) (H : Type) (enc : TypeId × Value → H) :
    ReturnsInHanded {} Try.checked os 3 .any (Rows.fnValidLedgerSpec.pre6 enc Try.prog Try.f3 Rows.fnValidLedgerRow.domain false) (Rows.fnValidLedgerSpec.post enc Try.prog Try.f3 false true false false) := by
  refine returnsInHanded_of_change (C := Try.checked) own started (by kernel_rfl) Try.func3
    (ChangeSpec.witness6 (enc := enc) (C := Try.checked) false ⟨#[], #[.slice none 0 0], []⟩ 8 (by kernel_rfl) (by kernel_rfl) (by kernel_rfl) (by kernel_rfl)) ?_
  intro W base args ds gs before hval0 hW hcnd _
  have hval : ∀ (j : Nat) t v, Try.f3.params[j]? = some t → args[j]? = some v → Value.okWide Try.prog W .any base t v := hval0
  have hW' := hW
  obtain ⟨p, q, hA0, hV, rfl, hfz, hnd⟩ := hW
  have hA : DataW.TrodAll enc Try.prog W 0 (fun _ => true) true Try.f3.params.toList args.toList ds p := hA0
  rw [Try.params3] at hA hval
  obtain ⟨v0, vs0, e0, es0, p0, q0, hargs, rfl, rfl, h0, r0⟩ := trodAll_cons hA
  obtain ⟨rfl, rfl, rfl⟩ := trodAll_nil r0
  obtain rfl : args = #[v0] := by cases args; simp_all
  obtain ⟨rfl, rfl⟩ := trodVars_none hV
  have k0 := h0
  have lt0 : ∀ x ∈ p0, x.block < W.heap.size := by obtain ⟨m, hm⟩ := k0; exact DataW.trod_lt m _ _ _ hm
  obtain ⟨a0, len0, cap0, rfl⟩ := okWide_slice Try.underlying22 (hval 0 22 v0 rfl rfl)
  obtain ⟨z0, w0⟩ : ∃ zs, IsRow .u8 W a0 len0 cap0 zs := by
    obtain ⟨fuel, hf⟩ := h0
    rcases open_ints Try.underlying22 Try.underlying5 (by kernel_rfl) hf with ⟨hcs, _⟩ | ⟨x, l, c, zs, hcs, _, hl, hm, hz, _, hcell, hwz⟩
    · simp [Value.cells] at hcs
      obtain ⟨rfl, rfl, rfl⟩ := hcs
      exact ⟨[], .inl ⟨rfl, rfl, rfl, rfl⟩⟩
    · simp [Value.cells] at hcs
      obtain ⟨rfl, rfl, rfl⟩ := hcs
      exact ⟨zs, .inr ⟨_, rfl, hl, hm, by simpa using hz, hcell, hwz⟩⟩
  clear hA0 hval0
  refine (walk a0 len0 cap0 z0 W w0).mono fun e W' ⟨he, bel⟩ => ?_
  subst he
  exact ⟨_, rfl, _, _, _, [], _, [], hW', trodAll_mk1 (shut_bool Try.underlying4 _), (trodAll_cons_mk (Below.trod laidOut (by kernel_rfl) (of_decide_eq_true (by kernel_rfl)) k0 bel lt0) trodAll_mk0), rfl, bel.frame _, fun h => by cases h⟩

theorem over : Rows.fnValidLedgerRow.holds Try.pinned (OpenSpec.ofChange Rows.fnValidLedgerSpec) :=
  OpenClaim.holds_of_wide 3 Try.f3 rfl rfl rfl rfl rfl rfl rfl ⟨rfl, rfl, rfl, rfl, rfl⟩ rfl rfl rfl rfl rfl (by kernel_rfl) Try.func3 (by kernel_rfl)
    (of_decide_eq_true (by kernel_rfl)) (by unfold Func.isWrapper; first | (rw [if_pos (by decide +kernel)]; kernel_rfl) | (rw [if_neg (by decide +kernel)]; exact ⟨rfl, rfl⟩))
    (fun os started H enc _ => lifted os started H enc)

end Go.Proofs.Ytppnhhnilnikfaa.fnValidLedger
namespace Go.Proofs.Ytppnhhnilnikfaa
/-- the statement -/
theorem fnValidLedger_holds : Rows.FnValidLedgerSaid := fnValidLedger.over
end Go.Proofs.Ytppnhhnilnikfaa
