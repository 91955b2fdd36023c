/- For every input the law answers true, and its argument reads afterwards as before: heirs get equal parts. No condition. -/
import Derived.Test.YtppnhhnilnikfaaRows
import Derived.Test.YtppnhhnilnikfaaDrawHh
import Derived.Test.YtppnhhnilnikfaaLedQ
import Derived.Test.YtppnhhnilnikfaaEqH
import Derived.Test.YtppnhhnilnikfaaKeep
import Derived.Test.YtppnhhnilnikfaaInherS
import Derived.WalkKit
import Derived.Deep.RegionHeld3
import Derived.Deep.QuietTactic
import Derived.ProofKit
import Derived.OpenShut
import Derived.ShutString
import Derived.ChangeOld
import Derived.Below
import Derived.Lib.SmallJoins
namespace Go.Proofs.Ytppnhhnilnikfaa.fnInheritShare
open Go.ChangeShapes Go.WideShapes Go.ChangeAt Go.RowKit Go.Joins
open Go.ChangeMaps (open_string shut_string)
set_option linter.unusedVariables false
set_option linter.unusedSimpArgs false

theorem own : ownKnob Try.prog.godebug = none := by kernel_rfl
theorem laidOut : laidOutB Try.prog = true := by kernel_rfl

set_option maxRecDepth 100000 in
set_option maxHeartbeats 6000000 in
theorem walk (a0 : Option Addr) (len0 cap0 : Nat) (z0 : List Int) (w : World) (w0 : IsRow .u8 w a0 len0 cap0 z0) :
    Calls Try.prog 6 #[.slice a0 len0 cap0] w fun e w' => e = .returned (.bool true) ∧ Below w.heap.size w w' := by
  by_cases big : (1048576 : Int) < (len0 : Int)
  · go_enter Try.func6, Try.ntmps6
    go_wp2
    go_ret
    exact ⟨rfl, Below.refl _ _⟩
  go_enter Try.func6, Try.ntmps6
  go_wp2_with fail
  refine (drawInheritShare a0 len0 cap0 z0 _ w0).mono ?_
  rintro e u1 ⟨b, cp, hs, q, A, cz, zs, rfl, hl6, hlc, hi, hz4, hzc, hiz, B⟩
  clear w0 big
  have hwu := B.size
  have n1 : hs.length ≤ 1048576 := by omega
  have HI := Lib.hid hi
  have D := Below.refl u1.heap.size u1
  have HZ := Lib.hid hiz
  have hzn : zs.length ≤ 1048576 := by omega
  clear hi hiz
  have CI := iInherit b cp hs q A cz zs u1 HI.out n1 hlc HZ.out hzn hzc
  have CS : ∀ W, Below u1.heap.size u1 W → Calls Try.prog 25 #[.slice b hs.length cp, .int .i64 q, .slice A zs.length cz] W (MoveV W (inhB hs q zs) (inhL hs q zs)) := fun W hW => sInheritShare b cp hs q A cz zs W (hs_below HI.out hW) n1 (ints_below HZ.out hW) hzn hzc
  cases hv : inhB hs q zs with
  | false =>
    rw [hv] at CI CS
    have CE : ∀ W, Calls Try.prog 22 #[.slice none 0 0, .slice none 0 0] W fun e w' => e = .returned (.bool true) ∧ Below W.heap.size W w' := fun W => eqHd none none 0 0 [] W (.inl rfl) (.inl rfl) (by decide)
    clear hv
    go_wp2_with fail
    refine CI.mono ?_
    rintro e u ⟨v, rfl, hv0, _, C⟩
    obtain rfl := hv0 rfl
    replace B := bel_tr B C
    replace D := bel_tr D C
    clear C hv0 CI
    go_wp2_with fail
    refine (CS _ D).mono ?_
    rintro e u ⟨v, rfl, hv0, _, C⟩
    obtain rfl := hv0 rfl
    replace B := bel_tr B C
    replace D := bel_tr D C
    clear C hv0 CS
    go_wp2_with fail
    refine (CE _).mono ?_
    rintro e u ⟨rfl, C⟩
    replace B := bel_tr B C
    clear C
    go_wp2_with fail
    refine (CE _).mono ?_
    rintro e u ⟨rfl, C⟩
    replace B := bel_tr B C
    clear C
    go_wp2_with fail
    go_ret
    exact ⟨rfl, B⟩
  | true =>
    rw [hv] at CI CS
    obtain ⟨pn, pd, hpn, ok, oko, z1, z12, hz0, hlaw⟩ := inh_law hv
    obtain ⟨n0, n2⟩ := inh_small hv
    generalize inhL hs q zs = M0 at CI CS oko hz0 hlaw n0 n2
    have HLAW := Lib.hid hlaw
    have HOK := Lib.hid oko
    have HZ0 := Lib.hid hz0
    clear hv ok oko hz0 hlaw
    go_wp2_with fail
    refine CI.mono ?_
    rintro e UM ⟨v, rfl, _, hown, C⟩
    replace hown := hown rfl
    obtain ⟨g, co, rfl, _, _⟩ := World.ownsRow.form hown (by omega)
    obtain ⟨hO, hco⟩ := own_ishs hown rfl
    have HI2 := Lib.hid (hs_below (hs_below HI.out D) C)
    have HZ2 := Lib.hid (ints_below (ints_below HZ.out D) C)
    replace B := bel_tr B C
    replace D := bel_tr D C
    have E := Below.refl UM.heap.size UM
    have HO := Lib.hid hO
    clear C hown CI hO
    go_wp2_with fail
    refine (CS _ D).mono ?_
    rintro e u ⟨v, rfl, _, hown, C⟩
    replace hown := hown rfl
    obtain ⟨g2, co2, rfl, _, _⟩ := World.ownsRow.form hown (by omega)
    obtain ⟨hO2, _⟩ := own_ishs hown rfl
    replace B := bel_tr B C
    replace D := bel_tr D C
    replace E := bel_tr E C
    clear C hown CS
    go_wp2_with fail
    refine (eqHd _ _ co co2 _ _ (hs_below HO.out E) hO2 n2).mono ?_
    rintro e u ⟨rfl, C⟩
    replace B := bel_tr B C
    replace E := bel_tr E C
    clear C hO2 D
    have HSL : ∀ z W, Below UM.heap.size UM W → Calls Try.prog 15 #[.slice b hs.length cp, .int .i64 z] W (ShareO W hs z) := fun z W hW => iShareOf b cp hs z W (hs_below HI2.out hW) n1
    have HSO : ∀ z W, Below UM.heap.size UM W → Calls Try.prog 15 #[.slice (some ⟨g, 0, none⟩) (rawL M0).length co, .int .i64 z] W (ShareO W (rawL M0) z) := fun z W hW => iShareOf _ co (rawL M0) z W (hs_below HO.out hW) n2
    have HVL : ∀ W, Below UM.heap.size UM W → Calls Try.prog 12 #[.slice (some ⟨g, 0, none⟩) (rawL M0).length co] W fun e w' => e = .returned (.bool true) ∧ Below W.heap.size W w' := fun W hW => by
      have := iVL _ co (rawL M0) W (hs_below HO.out hW) n2
      rw [HOK.out] at this; exact this
    have HEND : ∀ W, Below UM.heap.size UM W → Calls Try.prog 15 #[.slice (some ⟨g, 0, none⟩) (rawL M0).length co, .int .i64 q] W fun e w' => e = .returned (.agg #[.int .i64 0, .int .i64 (shV (rawL M0) q).2]) ∧ Below W.heap.size W w' := fun W hW => by
      have := HSO q W hW
      unfold ShareO at this
      rw [HZ0.out] at this; exact this
    generalize (shV (rawL M0) q).2 = y2 at HEND
    have fd2 : ∀ W : World, (Instr.field 27 (.agg #[.int .i64 0, .int .i64 y2]) 0).run Try.prog W = .ok (.int .i64 0) W := fun _ => by kernel_rfl
    have hcl : IsInts UM A zs := HZ2.out
    rcases hcl with rfl | ⟨ga, oa, rfl, hc⟩
    · simp at z1
    have HC := Lib.hid hc
    have pp : decide (0 < pn) = true := decide_eq_true hpn
    clear hc
    go_wp2_with fail
    have G0 := c2_new u (.int .i64 0) (.int .i64 0) 27
    have B0 := B.alloc B.size (.cells #[.int .i64 0, .int .i64 0] 27)
    have E0 := E.alloc E.size (.cells #[.int .i64 0, .int .i64 0] 27)
    have hgu : UM.heap.size ≤ u.heap.size := E.size
    have hwu : w.heap.size ≤ u.heap.size := B.size
    clear B E
    generalize u.alloc (.cells #[.int .i64 0, .int .i64 0] 27) = U at G0 B0 E0 ⊢
    generalize u.heap.size = gs at G0 hgu hwu ⊢
    go_loopw [11] (fun x wr => ∃ k : Nat, k ≤ zs.length ∧ x = .int .i64 k ∧ Cell2 wr gs (.int .i64 (if k = 0 then 0 else pn)) (.int .i64 (if k = 0 then 0 else pd)) ∧ Below w.heap.size w wr ∧ Below UM.heap.size UM wr) (fun x _ => zs.length - (intOf x).toNat)
    case atStart => exact ⟨0, Nat.zero_le _, rfl, G0, B0, E0⟩
    case round =>
      clear G0 B0 E0
      obtain ⟨k, hk, rfl, G, B, E⟩ := hrel
      by_cases hlt : k < zs.length
      · have c0 := (E.cell (World.block_lt_of_cell? UM _ (HC.out k hlt))).trans (HC.out k hlt)
        have m := HLAW.out k hlt
        have CO := HSO (zs.getD k 0)
        have CL := HSL (zs.getD k 0)
        unfold ShareO at CO CL
        generalize (shV (rawL M0) (zs.getD k 0)).1 = a1 at CO m
        generalize (shV (rawL M0) (zs.getD k 0)).2 = a2 at CO m
        generalize (shV hs (zs.getD k 0)).1 = b1 at CL m
        generalize (shV hs (zs.getD k 0)).2 = b2 at CL m
        generalize zs.getD k 0 = z at c0 CO CL
        have CAD : ∀ W, _ := fun W => iSub a1 a2 b1 b2 W
        rw [m] at CAD
        have HG := Lib.hid G
        have hgh := World.block_lt_of_cell? wr _ c0
        have k0 : (0 : Int) ≤ (k : Int) := by omega
        have k1 : (k : Int) < (zs.length : Int) := by omega
        have HB := Lib.hid B
        have HE := Lib.hid E
        clear B E m G HEND HVL
        go_wp2_with fail
        refine wp_region_held_drew (S := (fun w' => (w'.cell? ⟨ga, oa + k, none⟩ = some (.int .i64 z) ∧ w'.cell? ⟨ga, oa + k, none⟩ = some (.int .i64 z) ∧ w'.cell? ⟨ga, oa + k, none⟩ = some (.int .i64 z)) ∧ Below wr.heap.size wr w')) (by kernel_rfl) ?_ (fun hHeld => ?_)
        · exact ⟨⟨c0, c0, c0⟩, (Below.refl _ _).drew⟩
        refine wpAnyH_take (i := 0) (oi := ?oot92) (v := ?vvt92) ?hit92 (by kernel_rfl) ?h3t92 ?h4t92 ?h5t92 ?h6t92 (by assumption) ?h8t92
        case hit92 => (simp only [List.getElem?_toArray, List.getElem?_cons_succ, List.getElem?_cons_zero]; rfl)
        case h3t92 => kernel_rfl
        case h4t92 => kernel_rfl
        case h6t92 => (refine Or.inl ⟨by rfl, ?_⟩; intro w hSw; (try dsimp only at hSw); (go_simp <;> with_reducible rfl))
        case h5t92 => exact fun _ _ _ h => h
        try simp only [Act.put, List.setIfInBounds_toArray, List.set_cons_zero, List.set_cons_succ]
        refine wpAnyH_take (i := 1) (oi := ?oot93) (v := ?vvt93) ?hit93 (by kernel_rfl) ?h3t93 ?h4t93 ?h5t93 ?h6t93 (by assumption) ?h8t93
        case hit93 => (simp only [List.getElem?_toArray, List.getElem?_cons_succ, List.getElem?_cons_zero]; rfl)
        case h3t93 => kernel_rfl
        case h4t93 => kernel_rfl
        case h6t93 => (refine Or.inl ⟨by rfl, ?_⟩; intro w hSw; (try dsimp only at hSw); (go_simp <;> with_reducible rfl))
        case h5t93 => exact fun _ _ _ h => h
        try simp only [Act.put, List.setIfInBounds_toArray, List.set_cons_zero, List.set_cons_succ]
        refine wpAnyH_take (i := 2) (oi := ?oot94) (v := ?vvt94) ?hit94 (by kernel_rfl) ?h3t94 ?h4t94 ?h5t94 ?h6t94 (by assumption) ?h8t94
        case hit94 => (simp only [List.getElem?_toArray, List.getElem?_cons_succ, List.getElem?_cons_zero]; rfl)
        case h3t94 => kernel_rfl
        case h4t94 => kernel_rfl
        case h6t94 => (refine Or.inl ⟨by rfl, ?_⟩; intro w hSw; (try dsimp only at hSw); (go_simp <;> with_reducible rfl))
        case h5t94 => exact fun _ _ _ h => h
        try simp only [Act.put, List.setIfInBounds_toArray, List.set_cons_zero, List.set_cons_succ]
        refine wpAnyH_take (i := 3) (oi := ?oot95) (v := ?vvt95) ?hit95 (by kernel_rfl) ?h3t95 ?h4t95 ?h5t95 ?h6t95 (by assumption) ?h8t95
        case hit95 => (simp only [List.getElem?_toArray, List.getElem?_cons_succ, List.getElem?_cons_zero]; rfl)
        case h3t95 => kernel_rfl
        case h4t95 => kernel_rfl
        case h6t95 => (refine Or.inl ⟨by rfl, ?_⟩; intro w hSw; (try dsimp only at hSw); (go_simp <;> with_reducible rfl))
        case h5t95 => exact fun _ _ _ h => h
        try simp only [Act.put, List.setIfInBounds_toArray, List.set_cons_zero, List.set_cons_succ]
        refine wpAnyH_take (i := 4) (oi := ?oot96) (v := ?vvt96) ?hit96 (by kernel_rfl) ?h3t96 ?h4t96 ?h5t96 ?h6t96 (by assumption) ?h8t96
        case hit96 => (simp only [List.getElem?_toArray, List.getElem?_cons_succ, List.getElem?_cons_zero]; rfl)
        case h3t96 => kernel_rfl
        case h4t96 => kernel_rfl
        case h6t96 => (refine Or.inl ⟨by rfl, ?_⟩; intro w hSw; (try dsimp only at hSw); (go_simp <;> with_reducible rfl))
        case h5t96 => exact fun _ _ _ h => h
        try simp only [Act.put, List.setIfInBounds_toArray, List.set_cons_zero, List.set_cons_succ]
        refine wpAnyH_take (i := 6) (oi := ?oot97) (v := ?vvt97) ?hit97 (by kernel_rfl) ?h3t97 ?h4t97 ?h5t97 ?h6t97 (by assumption) ?h8t97
        case hit97 => (simp only [List.getElem?_toArray, List.getElem?_cons_succ, List.getElem?_cons_zero]; rfl)
        case h3t97 => kernel_rfl
        case h4t97 => kernel_rfl
        case h6t97 => (refine Or.inl ⟨by rfl, ?_⟩; intro w hSw; (try dsimp only at hSw); (go_simp <;> with_reducible rfl))
        case h5t97 => exact fun _ _ _ h => h
        try simp only [Act.put, List.setIfInBounds_toArray, List.set_cons_zero, List.set_cons_succ]
        refine wpAnyH_take (i := 7) (oi := ?oot98) (v := ?vvt98) ?hit98 (by kernel_rfl) ?h3t98 ?h4t98 ?h5t98 ?h6t98 (by assumption) ?h8t98
        case hit98 => (simp only [List.getElem?_toArray, List.getElem?_cons_succ, List.getElem?_cons_zero]; rfl)
        case h3t98 => kernel_rfl
        case h4t98 => kernel_rfl
        case h6t98 => (refine Or.inl ⟨by rfl, ?_⟩; intro w hSw; (try dsimp only at hSw); (go_simp <;> with_reducible rfl))
        case h5t98 => exact fun _ _ _ h => h
        try simp only [Act.put, List.setIfInBounds_toArray, List.set_cons_zero, List.set_cons_succ]
        refine wpAnyH_take (i := 8) (oi := ?oot99) (v := ?vvt99) ?hit99 (by kernel_rfl) ?h3t99 ?h4t99 ?h5t99 ?h6t99 (by assumption) ?h8t99
        case hit99 => (simp only [List.getElem?_toArray, List.getElem?_cons_succ, List.getElem?_cons_zero]; rfl)
        case h3t99 => kernel_rfl
        case h4t99 => kernel_rfl
        case h6t99 => (refine Or.inl ⟨by rfl, ?_⟩; intro w hSw; (try dsimp only at hSw); (go_simp <;> with_reducible rfl))
        case h5t99 => exact fun _ _ _ h => h
        try simp only [Act.put, List.setIfInBounds_toArray, List.set_cons_zero, List.set_cons_succ]
        refine wpAnyH_take (i := 9) (oi := ?oot100) (v := ?vvt100) ?hit100 (by kernel_rfl) ?h3t100 ?h4t100 ?h5t100 ?h6t100 (by assumption) ?h8t100
        case hit100 => (simp only [List.getElem?_toArray, List.getElem?_cons_succ, List.getElem?_cons_zero]; rfl)
        case h3t100 => kernel_rfl
        case h4t100 => kernel_rfl
        case h6t100 => (refine Or.inl ⟨by rfl, ?_⟩; intro w hSw; (try dsimp only at hSw); (go_simp <;> with_reducible rfl))
        case h5t100 => exact fun _ _ _ h => h
        try simp only [Act.put, List.setIfInBounds_toArray, List.set_cons_zero, List.set_cons_succ]
        refine wpAnyH_take (i := 10) (oi := ?oot101) (v := ?vvt101) ?hit101 (by kernel_rfl) ?h3t101 ?h4t101 ?h5t101 ?h6t101 (by assumption) ?h8t101
        case hit101 => (simp only [List.getElem?_toArray, List.getElem?_cons_succ, List.getElem?_cons_zero]; rfl)
        case h3t101 => kernel_rfl
        case h4t101 => kernel_rfl
        case h6t101 => (refine Or.inl ⟨by rfl, ?_⟩; intro w hSw; (try dsimp only at hSw); (go_simp <;> with_reducible rfl))
        case h5t101 => exact fun _ _ _ h => h
        try simp only [Act.put, List.setIfInBounds_toArray, List.set_cons_zero, List.set_cons_succ]
        refine wpAnyH_ready (rs := [5, 16]) (by kernel_rfl) (by simp) (AllReadyH.cons (o := ?oot102q0) ?hit102q0 (fun K hK => ?hkt102q0) (AllReadyH.cons (o := ?oot102q1) ?hit102q1 (fun K hK => ?hkt102q1) AllReadyH.nil))
        case hit102q0 => (simp only [List.getElem?_toArray, List.getElem?_cons_succ, List.getElem?_cons_zero]; rfl)
        case hit102q1 => (simp only [List.getElem?_toArray, List.getElem?_cons_succ, List.getElem?_cons_zero]; rfl)
        case hkt102q0 =>
          (rw [if_pos (by rfl)]; go_simp; refine (CO _ (bel_tr HE.out hHeld.2)).mono ?_; rintro e W5 ⟨rfl, hb5⟩; go_wp2_with fail; refine hK.out _ _ (kp3 hb5 hHeld) (fun hHeld => ?_); clear hK K)
          try simp only [Act.put, List.setIfInBounds_toArray, List.set_cons_zero, List.set_cons_succ]
          refine wpAnyH_ready (rs := [11, 16]) (by kernel_rfl) (by simp) (AllReadyH.cons (o := ?oot103q0) ?hit103q0 (fun K hK => ?hkt103q0) (AllReadyH.cons (o := ?oot103q1) ?hit103q1 (fun K hK => ?hkt103q1) AllReadyH.nil))
          case hit103q0 => (simp only [List.getElem?_toArray, List.getElem?_cons_succ, List.getElem?_cons_zero]; rfl)
          case hit103q1 => (simp only [List.getElem?_toArray, List.getElem?_cons_succ, List.getElem?_cons_zero]; rfl)
          case hkt103q0 =>
            (rw [if_pos (by rfl)]; go_simp; refine (CL _ (bel_tr HE.out hHeld.2)).mono ?_; rintro e W6 ⟨rfl, hb6⟩; go_wp2_with fail; refine hK.out _ _ (kp3 hb6 hHeld) (fun hHeld => ?_); clear hK K)
            try simp only [Act.put, List.setIfInBounds_toArray, List.set_cons_zero, List.set_cons_succ]
            refine wpAnyH_ready (rs := [12, 16]) (by kernel_rfl) (by simp) (AllReadyH.cons (o := ?oot104q0) ?hit104q0 (fun K hK => ?hkt104q0) (AllReadyH.cons (o := ?oot104q1) ?hit104q1 (fun K hK => ?hkt104q1) AllReadyH.nil))
            case hit104q0 => (simp only [List.getElem?_toArray, List.getElem?_cons_succ, List.getElem?_cons_zero]; rfl)
            case hit104q1 => (simp only [List.getElem?_toArray, List.getElem?_cons_succ, List.getElem?_cons_zero]; rfl)
            case hkt104q0 =>
              (rw [if_pos (by rfl)]; go_simp; refine (CAD _).mono ?_; rintro e W9 ⟨rfl, hb9⟩; go_wp2_with fail; refine hK.out _ _ (kp3 hb9 hHeld) (fun hHeld => ?_); clear hK K)
              try simp only [Act.put, List.setIfInBounds_toArray, List.set_cons_zero, List.set_cons_succ]
              refine wpAnyH_take (i := 13) (oi := ?oot105) (v := ?vvt105) ?hit105 (by kernel_rfl) ?h3t105 ?h4t105 ?h5t105 ?h6t105 (by assumption) ?h8t105
              case hit105 => (simp only [List.getElem?_toArray, List.getElem?_cons_succ, List.getElem?_cons_zero]; rfl)
              case h3t105 => kernel_rfl
              case h4t105 => kernel_rfl
              case h6t105 => (refine Or.inl ⟨by rfl, ?_⟩; intro w hSw; (try dsimp only at hSw); (go_simp <;> with_reducible rfl))
              case h5t105 => exact fun _ _ _ h => h
              try simp only [Act.put, List.setIfInBounds_toArray, List.set_cons_zero, List.set_cons_succ]
              refine wpAnyH_take (i := 14) (oi := ?oot106) (v := ?vvt106) ?hit106 (by kernel_rfl) ?h3t106 ?h4t106 ?h5t106 ?h6t106 (by assumption) ?h8t106
              case hit106 => (simp only [List.getElem?_toArray, List.getElem?_cons_succ, List.getElem?_cons_zero]; rfl)
              case h3t106 => kernel_rfl
              case h4t106 => kernel_rfl
              case h6t106 => (refine Or.inl ⟨by rfl, ?_⟩; intro w hSw; (try dsimp only at hSw); (go_simp <;> with_reducible rfl))
              case h5t106 => exact fun _ _ _ h => h
              try simp only [Act.put, List.setIfInBounds_toArray, List.set_cons_zero, List.set_cons_succ]
              refine wpAnyH_take (i := 15) (oi := ?oot107) (v := ?vvt107) ?hit107 (by kernel_rfl) ?h3t107 ?h4t107 ?h5t107 ?h6t107 (by assumption) ?h8t107
              case hit107 => (simp only [List.getElem?_toArray, List.getElem?_cons_succ, List.getElem?_cons_zero]; rfl)
              case h3t107 => kernel_rfl
              case h4t107 => kernel_rfl
              case h6t107 => (refine Or.inl ⟨by rfl, ?_⟩; intro w hSw; (try dsimp only at hSw); (go_simp <;> with_reducible rfl))
              case h5t107 => exact fun _ _ _ h => h
              try simp only [Act.put, List.setIfInBounds_toArray, List.set_cons_zero, List.set_cons_succ]
              refine wpAnyH_ready (rs := [16]) (by kernel_rfl) (by simp) (AllReadyH.cons (o := ?oot108) ?hit108 (fun K hK => ?hkt108) AllReadyH.nil)
              rotate_left
              case hit108 => (simp only [List.getElem?_toArray, List.getElem?_cons_succ, List.getElem?_cons_zero]; rfl)
              (rw [if_pos (by rfl)]; go_simp; have F7 := Lib.hid (c2_new W9 (.int .i64 0) (.int .i64 0) 27); have E7 := kp3 ((Below.refl _ W9).alloc (Nat.le_refl _) (.cells #[.int .i64 0, .int .i64 0] 27)) hHeld; have L6 := hHeld.2.size; generalize W9.alloc (.cells #[.int .i64 0, .int .i64 0] 27) = W7 at F7 E7 ⊢; generalize W9.heap.size = gf at F7 L6 ⊢; refine hK.out _ _ (E7) (fun hHeld => ?_); clear hK K)
              try simp only [Act.put, List.setIfInBounds_toArray, List.set_cons_zero, List.set_cons_succ]
              refine wpAnyH_ready (rs := [17]) (by kernel_rfl) (by simp) (AllReadyH.cons (o := ?oot109) ?hit109 (fun K hK => ?hkt109) AllReadyH.nil)
              rotate_left
              case hit109 => (simp only [List.getElem?_toArray, List.getElem?_cons_succ, List.getElem?_cons_zero]; rfl)
              (rw [if_pos (by rfl)]; obtain ⟨fc0, fc1, ff0, ff1, fz⟩ := F7.out; go_simp; have F8 := Lib.hid (c2_set F7.out (.int .i64 (pn)) (.int .i64 (pd))); have E8 := kp3S hHeld L6 (.int .i64 (pn)) (.int .i64 (pd)) hgh hgh hgh; generalize World.setCell (World.setCell _ ⟨gf, 0, none⟩ (.int .i64 (pn))) ⟨gf, 1, none⟩ (.int .i64 (pd)) = W8 at F8 E8 ⊢; clear fc0 fc1 ff0 ff1 fz F7; refine hK.out _ _ (E8) (fun hHeld => ?_); clear hK K)
              try simp only [Act.put, List.setIfInBounds_toArray, List.set_cons_zero, List.set_cons_succ]
              refine wpAnyH_take (i := 18) (oi := ?oot110) (v := ?vvt110) ?hit110 (by kernel_rfl) ?h3t110 ?h4t110 ?h5t110 ?h6t110 (by assumption) ?h8t110
              case hit110 => (simp only [List.getElem?_toArray, List.getElem?_cons_succ, List.getElem?_cons_zero]; rfl)
              case h3t110 => kernel_rfl
              case h4t110 => kernel_rfl
              case h6t110 => (refine Or.inl ⟨by rfl, ?_⟩; intro w hSw; (try dsimp only at hSw); (go_simp <;> with_reducible rfl))
              case h5t110 => exact fun _ _ _ h => h
              try simp only [Act.put, List.setIfInBounds_toArray, List.set_cons_zero, List.set_cons_succ]
              refine wpAnyH_done (by kernel_rfl) ?_ _
              obtain ⟨⟨_, _, _⟩, hB8⟩ := E8
              have G8 := c2_below HG.out hB8
              have B8 := bel_tr HB.out hB8
              have E8 := bel_tr HE.out hB8
              have F9 := F8.out
              have HG10 := Lib.hid (c2_set G8 (.int .i64 pn) (.int .i64 pd))
              have HB10 := Lib.hid ((B8.setCell (p := ⟨gs, 0, none⟩) hwu (.int .i64 pn)).setCell (p := ⟨gs, 1, none⟩) hwu (.int .i64 pd))
              have HE10 := Lib.hid ((E8.setCell (p := ⟨gs, 0, none⟩) hgu (.int .i64 pn)).setCell (p := ⟨gs, 1, none⟩) hgu (.int .i64 pd))
              obtain ⟨fc0, fc1, ff0, ff1, fz⟩ := F9
              obtain ⟨gc0, gc1, gf0, gf1, gz⟩ := G8
              clear B8 E8 hHeld c0 hB8 F8 HB HE HG HSO HSL
              by_cases kz : k = 0
              · subst kz
                go_wp2_with fail
                go_roundw
                case rel => exact ⟨1, by omega, by go_num, HG10.out, HB10.out, HE10.out⟩
                case measure => simp [intOf]; omega
              · rw [if_neg kz] at gc0 gc1
                have e1 : decide ((0 : Int) < (k : Int)) = true := decide_eq_true (by omega)
                have e2 : decide (0 < k) = true := decide_eq_true (by omega)
                have hk1 : Hid (k + 1 ≠ 0) := fun c => by omega
                clear kz
                go_wp2_with fail
                go_roundw
                case rel => exact ⟨k + 1, by omega, by go_num, by rw [if_neg hk1.out, if_neg hk1.out]; exact HG10.out, HB10.out, HE10.out⟩
                case measure => simp [intOf]; omega
            case hkt104q1 =>
              (rw [if_pos (by rfl)]; go_simp; have F7 := Lib.hid (c2_new W6 (.int .i64 0) (.int .i64 0) 27); have E7 := kp3 ((Below.refl _ W6).alloc (Nat.le_refl _) (.cells #[.int .i64 0, .int .i64 0] 27)) hHeld; have L6 := hHeld.2.size; generalize W6.alloc (.cells #[.int .i64 0, .int .i64 0] 27) = W7 at F7 E7 ⊢; generalize W6.heap.size = gf at F7 L6 ⊢; refine hK.out _ _ (E7) (fun hHeld => ?_); clear hK K)
              try simp only [Act.put, List.setIfInBounds_toArray, List.set_cons_zero, List.set_cons_succ]
              refine wpAnyH_ready (rs := [12]) (by kernel_rfl) (by simp) (AllReadyH.cons (o := ?oot112) ?hit112 (fun K hK => ?hkt112) AllReadyH.nil)
              rotate_left
              case hit112 => (simp only [List.getElem?_toArray, List.getElem?_cons_succ, List.getElem?_cons_zero]; rfl)
              (rw [if_pos (by rfl)]; go_simp; refine (CAD _).mono ?_; rintro e W9 ⟨rfl, hb9⟩; replace F7 := Lib.hid (c2_below F7.out hb9); go_wp2_with fail; refine hK.out _ _ (kp3 hb9 hHeld) (fun hHeld => ?_); clear hK K)
              try simp only [Act.put, List.setIfInBounds_toArray, List.set_cons_zero, List.set_cons_succ]
              refine wpAnyH_take (i := 13) (oi := ?oot113) (v := ?vvt113) ?hit113 (by kernel_rfl) ?h3t113 ?h4t113 ?h5t113 ?h6t113 (by assumption) ?h8t113
              case hit113 => (simp only [List.getElem?_toArray, List.getElem?_cons_succ, List.getElem?_cons_zero]; rfl)
              case h3t113 => kernel_rfl
              case h4t113 => kernel_rfl
              case h6t113 => (refine Or.inl ⟨by rfl, ?_⟩; intro w hSw; (try dsimp only at hSw); (go_simp <;> with_reducible rfl))
              case h5t113 => exact fun _ _ _ h => h
              try simp only [Act.put, List.setIfInBounds_toArray, List.set_cons_zero, List.set_cons_succ]
              refine wpAnyH_take (i := 14) (oi := ?oot114) (v := ?vvt114) ?hit114 (by kernel_rfl) ?h3t114 ?h4t114 ?h5t114 ?h6t114 (by assumption) ?h8t114
              case hit114 => (simp only [List.getElem?_toArray, List.getElem?_cons_succ, List.getElem?_cons_zero]; rfl)
              case h3t114 => kernel_rfl
              case h4t114 => kernel_rfl
              case h6t114 => (refine Or.inl ⟨by rfl, ?_⟩; intro w hSw; (try dsimp only at hSw); (go_simp <;> with_reducible rfl))
              case h5t114 => exact fun _ _ _ h => h
              try simp only [Act.put, List.setIfInBounds_toArray, List.set_cons_zero, List.set_cons_succ]
              refine wpAnyH_take (i := 15) (oi := ?oot115) (v := ?vvt115) ?hit115 (by kernel_rfl) ?h3t115 ?h4t115 ?h5t115 ?h6t115 (by assumption) ?h8t115
              case hit115 => (simp only [List.getElem?_toArray, List.getElem?_cons_succ, List.getElem?_cons_zero]; rfl)
              case h3t115 => kernel_rfl
              case h4t115 => kernel_rfl
              case h6t115 => (refine Or.inl ⟨by rfl, ?_⟩; intro w hSw; (try dsimp only at hSw); (go_simp <;> with_reducible rfl))
              case h5t115 => exact fun _ _ _ h => h
              try simp only [Act.put, List.setIfInBounds_toArray, List.set_cons_zero, List.set_cons_succ]
              refine wpAnyH_ready (rs := [17]) (by kernel_rfl) (by simp) (AllReadyH.cons (o := ?oot116) ?hit116 (fun K hK => ?hkt116) AllReadyH.nil)
              rotate_left
              case hit116 => (simp only [List.getElem?_toArray, List.getElem?_cons_succ, List.getElem?_cons_zero]; rfl)
              (rw [if_pos (by rfl)]; obtain ⟨fc0, fc1, ff0, ff1, fz⟩ := F7.out; go_simp; have F8 := Lib.hid (c2_set F7.out (.int .i64 (pn)) (.int .i64 (pd))); have E8 := kp3S hHeld L6 (.int .i64 (pn)) (.int .i64 (pd)) hgh hgh hgh; generalize World.setCell (World.setCell _ ⟨gf, 0, none⟩ (.int .i64 (pn))) ⟨gf, 1, none⟩ (.int .i64 (pd)) = W8 at F8 E8 ⊢; clear fc0 fc1 ff0 ff1 fz F7; refine hK.out _ _ (E8) (fun hHeld => ?_); clear hK K)
              try simp only [Act.put, List.setIfInBounds_toArray, List.set_cons_zero, List.set_cons_succ]
              refine wpAnyH_take (i := 18) (oi := ?oot117) (v := ?vvt117) ?hit117 (by kernel_rfl) ?h3t117 ?h4t117 ?h5t117 ?h6t117 (by assumption) ?h8t117
              case hit117 => (simp only [List.getElem?_toArray, List.getElem?_cons_succ, List.getElem?_cons_zero]; rfl)
              case h3t117 => kernel_rfl
              case h4t117 => kernel_rfl
              case h6t117 => (refine Or.inl ⟨by rfl, ?_⟩; intro w hSw; (try dsimp only at hSw); (go_simp <;> with_reducible rfl))
              case h5t117 => exact fun _ _ _ h => h
              try simp only [Act.put, List.setIfInBounds_toArray, List.set_cons_zero, List.set_cons_succ]
              refine wpAnyH_done (by kernel_rfl) ?_ _
              obtain ⟨⟨_, _, _⟩, hB8⟩ := E8
              have G8 := c2_below HG.out hB8
              have B8 := bel_tr HB.out hB8
              have E8 := bel_tr HE.out hB8
              have F9 := F8.out
              have HG10 := Lib.hid (c2_set G8 (.int .i64 pn) (.int .i64 pd))
              have HB10 := Lib.hid ((B8.setCell (p := ⟨gs, 0, none⟩) hwu (.int .i64 pn)).setCell (p := ⟨gs, 1, none⟩) hwu (.int .i64 pd))
              have HE10 := Lib.hid ((E8.setCell (p := ⟨gs, 0, none⟩) hgu (.int .i64 pn)).setCell (p := ⟨gs, 1, none⟩) hgu (.int .i64 pd))
              obtain ⟨fc0, fc1, ff0, ff1, fz⟩ := F9
              obtain ⟨gc0, gc1, gf0, gf1, gz⟩ := G8
              clear B8 E8 hHeld c0 hB8 F8 HB HE HG HSO HSL
              by_cases kz : k = 0
              · subst kz
                go_wp2_with fail
                go_roundw
                case rel => exact ⟨1, by omega, by go_num, HG10.out, HB10.out, HE10.out⟩
                case measure => simp [intOf]; omega
              · rw [if_neg kz] at gc0 gc1
                have e1 : decide ((0 : Int) < (k : Int)) = true := decide_eq_true (by omega)
                have e2 : decide (0 < k) = true := decide_eq_true (by omega)
                have hk1 : Hid (k + 1 ≠ 0) := fun c => by omega
                clear kz
                go_wp2_with fail
                go_roundw
                case rel => exact ⟨k + 1, by omega, by go_num, by rw [if_neg hk1.out, if_neg hk1.out]; exact HG10.out, HB10.out, HE10.out⟩
                case measure => simp [intOf]; omega
          case hkt103q1 =>
            (rw [if_pos (by rfl)]; go_simp; have F7 := Lib.hid (c2_new W5 (.int .i64 0) (.int .i64 0) 27); have E7 := kp3 ((Below.refl _ W5).alloc (Nat.le_refl _) (.cells #[.int .i64 0, .int .i64 0] 27)) hHeld; have L6 := hHeld.2.size; generalize W5.alloc (.cells #[.int .i64 0, .int .i64 0] 27) = W7 at F7 E7 ⊢; generalize W5.heap.size = gf at F7 L6 ⊢; refine hK.out _ _ (E7) (fun hHeld => ?_); clear hK K)
            try simp only [Act.put, List.setIfInBounds_toArray, List.set_cons_zero, List.set_cons_succ]
            refine wpAnyH_ready (rs := [11]) (by kernel_rfl) (by simp) (AllReadyH.cons (o := ?oot119) ?hit119 (fun K hK => ?hkt119) AllReadyH.nil)
            rotate_left
            case hit119 => (simp only [List.getElem?_toArray, List.getElem?_cons_succ, List.getElem?_cons_zero]; rfl)
            (rw [if_pos (by rfl)]; go_simp; refine (CL _ (bel_tr HE.out hHeld.2)).mono ?_; rintro e W6 ⟨rfl, hb6⟩; replace F7 := Lib.hid (c2_below F7.out hb6); go_wp2_with fail; refine hK.out _ _ (kp3 hb6 hHeld) (fun hHeld => ?_); clear hK K)
            try simp only [Act.put, List.setIfInBounds_toArray, List.set_cons_zero, List.set_cons_succ]
            refine wpAnyH_ready (rs := [12]) (by kernel_rfl) (by simp) (AllReadyH.cons (o := ?oot120) ?hit120 (fun K hK => ?hkt120) AllReadyH.nil)
            rotate_left
            case hit120 => (simp only [List.getElem?_toArray, List.getElem?_cons_succ, List.getElem?_cons_zero]; rfl)
            (rw [if_pos (by rfl)]; go_simp; refine (CAD _).mono ?_; rintro e W9 ⟨rfl, hb9⟩; replace F7 := Lib.hid (c2_below F7.out hb9); go_wp2_with fail; refine hK.out _ _ (kp3 hb9 hHeld) (fun hHeld => ?_); clear hK K)
            try simp only [Act.put, List.setIfInBounds_toArray, List.set_cons_zero, List.set_cons_succ]
            refine wpAnyH_take (i := 13) (oi := ?oot121) (v := ?vvt121) ?hit121 (by kernel_rfl) ?h3t121 ?h4t121 ?h5t121 ?h6t121 (by assumption) ?h8t121
            case hit121 => (simp only [List.getElem?_toArray, List.getElem?_cons_succ, List.getElem?_cons_zero]; rfl)
            case h3t121 => kernel_rfl
            case h4t121 => kernel_rfl
            case h6t121 => (refine Or.inl ⟨by rfl, ?_⟩; intro w hSw; (try dsimp only at hSw); (go_simp <;> with_reducible rfl))
            case h5t121 => exact fun _ _ _ h => h
            try simp only [Act.put, List.setIfInBounds_toArray, List.set_cons_zero, List.set_cons_succ]
            refine wpAnyH_take (i := 14) (oi := ?oot122) (v := ?vvt122) ?hit122 (by kernel_rfl) ?h3t122 ?h4t122 ?h5t122 ?h6t122 (by assumption) ?h8t122
            case hit122 => (simp only [List.getElem?_toArray, List.getElem?_cons_succ, List.getElem?_cons_zero]; rfl)
            case h3t122 => kernel_rfl
            case h4t122 => kernel_rfl
            case h6t122 => (refine Or.inl ⟨by rfl, ?_⟩; intro w hSw; (try dsimp only at hSw); (go_simp <;> with_reducible rfl))
            case h5t122 => exact fun _ _ _ h => h
            try simp only [Act.put, List.setIfInBounds_toArray, List.set_cons_zero, List.set_cons_succ]
            refine wpAnyH_take (i := 15) (oi := ?oot123) (v := ?vvt123) ?hit123 (by kernel_rfl) ?h3t123 ?h4t123 ?h5t123 ?h6t123 (by assumption) ?h8t123
            case hit123 => (simp only [List.getElem?_toArray, List.getElem?_cons_succ, List.getElem?_cons_zero]; rfl)
            case h3t123 => kernel_rfl
            case h4t123 => kernel_rfl
            case h6t123 => (refine Or.inl ⟨by rfl, ?_⟩; intro w hSw; (try dsimp only at hSw); (go_simp <;> with_reducible rfl))
            case h5t123 => exact fun _ _ _ h => h
            try simp only [Act.put, List.setIfInBounds_toArray, List.set_cons_zero, List.set_cons_succ]
            refine wpAnyH_ready (rs := [17]) (by kernel_rfl) (by simp) (AllReadyH.cons (o := ?oot124) ?hit124 (fun K hK => ?hkt124) AllReadyH.nil)
            rotate_left
            case hit124 => (simp only [List.getElem?_toArray, List.getElem?_cons_succ, List.getElem?_cons_zero]; rfl)
            (rw [if_pos (by rfl)]; obtain ⟨fc0, fc1, ff0, ff1, fz⟩ := F7.out; go_simp; have F8 := Lib.hid (c2_set F7.out (.int .i64 (pn)) (.int .i64 (pd))); have E8 := kp3S hHeld L6 (.int .i64 (pn)) (.int .i64 (pd)) hgh hgh hgh; generalize World.setCell (World.setCell _ ⟨gf, 0, none⟩ (.int .i64 (pn))) ⟨gf, 1, none⟩ (.int .i64 (pd)) = W8 at F8 E8 ⊢; clear fc0 fc1 ff0 ff1 fz F7; refine hK.out _ _ (E8) (fun hHeld => ?_); clear hK K)
            try simp only [Act.put, List.setIfInBounds_toArray, List.set_cons_zero, List.set_cons_succ]
            refine wpAnyH_take (i := 18) (oi := ?oot125) (v := ?vvt125) ?hit125 (by kernel_rfl) ?h3t125 ?h4t125 ?h5t125 ?h6t125 (by assumption) ?h8t125
            case hit125 => (simp only [List.getElem?_toArray, List.getElem?_cons_succ, List.getElem?_cons_zero]; rfl)
            case h3t125 => kernel_rfl
            case h4t125 => kernel_rfl
            case h6t125 => (refine Or.inl ⟨by rfl, ?_⟩; intro w hSw; (try dsimp only at hSw); (go_simp <;> with_reducible rfl))
            case h5t125 => exact fun _ _ _ h => h
            try simp only [Act.put, List.setIfInBounds_toArray, List.set_cons_zero, List.set_cons_succ]
            refine wpAnyH_done (by kernel_rfl) ?_ _
            obtain ⟨⟨_, _, _⟩, hB8⟩ := E8
            have G8 := c2_below HG.out hB8
            have B8 := bel_tr HB.out hB8
            have E8 := bel_tr HE.out hB8
            have F9 := F8.out
            have HG10 := Lib.hid (c2_set G8 (.int .i64 pn) (.int .i64 pd))
            have HB10 := Lib.hid ((B8.setCell (p := ⟨gs, 0, none⟩) hwu (.int .i64 pn)).setCell (p := ⟨gs, 1, none⟩) hwu (.int .i64 pd))
            have HE10 := Lib.hid ((E8.setCell (p := ⟨gs, 0, none⟩) hgu (.int .i64 pn)).setCell (p := ⟨gs, 1, none⟩) hgu (.int .i64 pd))
            obtain ⟨fc0, fc1, ff0, ff1, fz⟩ := F9
            obtain ⟨gc0, gc1, gf0, gf1, gz⟩ := G8
            clear B8 E8 hHeld c0 hB8 F8 HB HE HG HSO HSL
            by_cases kz : k = 0
            · subst kz
              go_wp2_with fail
              go_roundw
              case rel => exact ⟨1, by omega, by go_num, HG10.out, HB10.out, HE10.out⟩
              case measure => simp [intOf]; omega
            · rw [if_neg kz] at gc0 gc1
              have e1 : decide ((0 : Int) < (k : Int)) = true := decide_eq_true (by omega)
              have e2 : decide (0 < k) = true := decide_eq_true (by omega)
              have hk1 : Hid (k + 1 ≠ 0) := fun c => by omega
              clear kz
              go_wp2_with fail
              go_roundw
              case rel => exact ⟨k + 1, by omega, by go_num, by rw [if_neg hk1.out, if_neg hk1.out]; exact HG10.out, HB10.out, HE10.out⟩
              case measure => simp [intOf]; omega
        case hkt102q1 =>
          (rw [if_pos (by rfl)]; go_simp; have F7 : Hid (Cell2 (wr.alloc (.cells #[.int .i64 0, .int .i64 0] 27)).drew wr.heap.size (.int .i64 0) (.int .i64 0)) := c2_new wr (.int .i64 0) (.int .i64 0) 27; have E7 := kp3A (.cells #[.int .i64 0, .int .i64 0] 27) ⟨c0, c0, c0⟩; have L6 : wr.heap.size ≤ wr.heap.size := Nat.le_refl _; generalize (wr.alloc (.cells #[.int .i64 0, .int .i64 0] 27)).drew = W7 at F7 E7 ⊢; obtain ⟨gf, hgf⟩ : ∃ gf, gf = wr.heap.size := ⟨_, rfl⟩; rw [← hgf] at F7 ⊢; replace L6 : wr.heap.size ≤ gf := (by omega); clear hgf; refine hK.out _ _ (E7) (fun hHeld => ?_); clear hK K)
          try simp only [Act.put, List.setIfInBounds_toArray, List.set_cons_zero, List.set_cons_succ]
          refine wpAnyH_ready (rs := [5]) (by kernel_rfl) (by simp) (AllReadyH.cons (o := ?oot127) ?hit127 (fun K hK => ?hkt127) AllReadyH.nil)
          rotate_left
          case hit127 => (simp only [List.getElem?_toArray, List.getElem?_cons_succ, List.getElem?_cons_zero]; rfl)
          (rw [if_pos (by rfl)]; go_simp; refine (CO _ (bel_tr HE.out hHeld.2)).mono ?_; rintro e W5 ⟨rfl, hb5⟩; replace F7 := Lib.hid (c2_below F7.out hb5); go_wp2_with fail; refine hK.out _ _ (kp3 hb5 hHeld) (fun hHeld => ?_); clear hK K)
          try simp only [Act.put, List.setIfInBounds_toArray, List.set_cons_zero, List.set_cons_succ]
          refine wpAnyH_ready (rs := [11]) (by kernel_rfl) (by simp) (AllReadyH.cons (o := ?oot128) ?hit128 (fun K hK => ?hkt128) AllReadyH.nil)
          rotate_left
          case hit128 => (simp only [List.getElem?_toArray, List.getElem?_cons_succ, List.getElem?_cons_zero]; rfl)
          (rw [if_pos (by rfl)]; go_simp; refine (CL _ (bel_tr HE.out hHeld.2)).mono ?_; rintro e W6 ⟨rfl, hb6⟩; replace F7 := Lib.hid (c2_below F7.out hb6); go_wp2_with fail; refine hK.out _ _ (kp3 hb6 hHeld) (fun hHeld => ?_); clear hK K)
          try simp only [Act.put, List.setIfInBounds_toArray, List.set_cons_zero, List.set_cons_succ]
          refine wpAnyH_ready (rs := [12]) (by kernel_rfl) (by simp) (AllReadyH.cons (o := ?oot129) ?hit129 (fun K hK => ?hkt129) AllReadyH.nil)
          rotate_left
          case hit129 => (simp only [List.getElem?_toArray, List.getElem?_cons_succ, List.getElem?_cons_zero]; rfl)
          (rw [if_pos (by rfl)]; go_simp; refine (CAD _).mono ?_; rintro e W9 ⟨rfl, hb9⟩; replace F7 := Lib.hid (c2_below F7.out hb9); go_wp2_with fail; refine hK.out _ _ (kp3 hb9 hHeld) (fun hHeld => ?_); clear hK K)
          try simp only [Act.put, List.setIfInBounds_toArray, List.set_cons_zero, List.set_cons_succ]
          refine wpAnyH_take (i := 13) (oi := ?oot130) (v := ?vvt130) ?hit130 (by kernel_rfl) ?h3t130 ?h4t130 ?h5t130 ?h6t130 (by assumption) ?h8t130
          case hit130 => (simp only [List.getElem?_toArray, List.getElem?_cons_succ, List.getElem?_cons_zero]; rfl)
          case h3t130 => kernel_rfl
          case h4t130 => kernel_rfl
          case h6t130 => (refine Or.inl ⟨by rfl, ?_⟩; intro w hSw; (try dsimp only at hSw); (go_simp <;> with_reducible rfl))
          case h5t130 => exact fun _ _ _ h => h
          try simp only [Act.put, List.setIfInBounds_toArray, List.set_cons_zero, List.set_cons_succ]
          refine wpAnyH_take (i := 14) (oi := ?oot131) (v := ?vvt131) ?hit131 (by kernel_rfl) ?h3t131 ?h4t131 ?h5t131 ?h6t131 (by assumption) ?h8t131
          case hit131 => (simp only [List.getElem?_toArray, List.getElem?_cons_succ, List.getElem?_cons_zero]; rfl)
          case h3t131 => kernel_rfl
          case h4t131 => kernel_rfl
          case h6t131 => (refine Or.inl ⟨by rfl, ?_⟩; intro w hSw; (try dsimp only at hSw); (go_simp <;> with_reducible rfl))
          case h5t131 => exact fun _ _ _ h => h
          try simp only [Act.put, List.setIfInBounds_toArray, List.set_cons_zero, List.set_cons_succ]
          refine wpAnyH_take (i := 15) (oi := ?oot132) (v := ?vvt132) ?hit132 (by kernel_rfl) ?h3t132 ?h4t132 ?h5t132 ?h6t132 (by assumption) ?h8t132
          case hit132 => (simp only [List.getElem?_toArray, List.getElem?_cons_succ, List.getElem?_cons_zero]; rfl)
          case h3t132 => kernel_rfl
          case h4t132 => kernel_rfl
          case h6t132 => (refine Or.inl ⟨by rfl, ?_⟩; intro w hSw; (try dsimp only at hSw); (go_simp <;> with_reducible rfl))
          case h5t132 => exact fun _ _ _ h => h
          try simp only [Act.put, List.setIfInBounds_toArray, List.set_cons_zero, List.set_cons_succ]
          refine wpAnyH_ready (rs := [17]) (by kernel_rfl) (by simp) (AllReadyH.cons (o := ?oot133) ?hit133 (fun K hK => ?hkt133) AllReadyH.nil)
          rotate_left
          case hit133 => (simp only [List.getElem?_toArray, List.getElem?_cons_succ, List.getElem?_cons_zero]; rfl)
          (rw [if_pos (by rfl)]; obtain ⟨fc0, fc1, ff0, ff1, fz⟩ := F7.out; go_simp; have F8 := Lib.hid (c2_set F7.out (.int .i64 (pn)) (.int .i64 (pd))); have E8 := kp3S hHeld L6 (.int .i64 (pn)) (.int .i64 (pd)) hgh hgh hgh; generalize World.setCell (World.setCell _ ⟨gf, 0, none⟩ (.int .i64 (pn))) ⟨gf, 1, none⟩ (.int .i64 (pd)) = W8 at F8 E8 ⊢; clear fc0 fc1 ff0 ff1 fz F7; refine hK.out _ _ (E8) (fun hHeld => ?_); clear hK K)
          try simp only [Act.put, List.setIfInBounds_toArray, List.set_cons_zero, List.set_cons_succ]
          refine wpAnyH_take (i := 18) (oi := ?oot134) (v := ?vvt134) ?hit134 (by kernel_rfl) ?h3t134 ?h4t134 ?h5t134 ?h6t134 (by assumption) ?h8t134
          case hit134 => (simp only [List.getElem?_toArray, List.getElem?_cons_succ, List.getElem?_cons_zero]; rfl)
          case h3t134 => kernel_rfl
          case h4t134 => kernel_rfl
          case h6t134 => (refine Or.inl ⟨by rfl, ?_⟩; intro w hSw; (try dsimp only at hSw); (go_simp <;> with_reducible rfl))
          case h5t134 => exact fun _ _ _ h => h
          try simp only [Act.put, List.setIfInBounds_toArray, List.set_cons_zero, List.set_cons_succ]
          refine wpAnyH_done (by kernel_rfl) ?_ _
          obtain ⟨⟨_, _, _⟩, hB8⟩ := E8
          have G8 := c2_below HG.out hB8
          have B8 := bel_tr HB.out hB8
          have E8 := bel_tr HE.out hB8
          have F9 := F8.out
          have HG10 := Lib.hid (c2_set G8 (.int .i64 pn) (.int .i64 pd))
          have HB10 := Lib.hid ((B8.setCell (p := ⟨gs, 0, none⟩) hwu (.int .i64 pn)).setCell (p := ⟨gs, 1, none⟩) hwu (.int .i64 pd))
          have HE10 := Lib.hid ((E8.setCell (p := ⟨gs, 0, none⟩) hgu (.int .i64 pn)).setCell (p := ⟨gs, 1, none⟩) hgu (.int .i64 pd))
          obtain ⟨fc0, fc1, ff0, ff1, fz⟩ := F9
          obtain ⟨gc0, gc1, gf0, gf1, gz⟩ := G8
          clear B8 E8 hHeld c0 hB8 F8 HB HE HG HSO HSL
          by_cases kz : k = 0
          · subst kz
            go_wp2_with fail
            go_roundw
            case rel => exact ⟨1, by omega, by go_num, HG10.out, HB10.out, HE10.out⟩
            case measure => simp [intOf]; omega
          · rw [if_neg kz] at gc0 gc1
            have e1 : decide ((0 : Int) < (k : Int)) = true := decide_eq_true (by omega)
            have e2 : decide (0 < k) = true := decide_eq_true (by omega)
            have hk1 : Hid (k + 1 ≠ 0) := fun c => by omega
            clear kz
            go_wp2_with fail
            go_roundw
            case rel => exact ⟨k + 1, by omega, by go_num, by rw [if_neg hk1.out, if_neg hk1.out]; exact HG10.out, HB10.out, HE10.out⟩
            case measure => simp [intOf]; omega
      · obtain rfl : k = zs.length := by omega
        rw [if_neg (by omega), if_neg (by omega)] at G
        clear HSO HSL
        go_wp2_with fail
        refine (HEND _ E).mono ?_
        rintro e u ⟨rfl, C⟩
        replace B := bel_tr B C
        replace E := bel_tr E C
        replace G := c2_below G C
        clear C HEND
        go_wp2_with fail
        refine (HVL _ E).mono ?_
        rintro e u ⟨rfl, C⟩
        replace B := bel_tr B C
        replace G := c2_below G C
        clear C HVL
        obtain ⟨s0, s1, _, _, hgs⟩ := G
        go_wp2_with fail
        go_ret
        exact ⟨rfl, B⟩

set_option maxRecDepth 100000 in
theorem lifted (os : Os) (started : os.Started) (H : Type) (enc : TypeId × Value → H) :
    ReturnsInHanded {} Try.checked os 6 .any (Rows.fnInheritShareSpec.pre6 enc Try.prog Try.f6 Rows.fnInheritShareRow.domain false) (Rows.fnInheritShareSpec.post enc Try.prog Try.f6 false true false false) := by
  refine returnsInHanded_of_change (C := Try.checked) own started (by kernel_rfl) Try.func6
    (ChangeSpec.witness6 (enc := enc) (C := Try.checked) false ⟨#[], #[.slice none 0 0], []⟩ 8 (by kernel_rfl) (by kernel_rfl) (by kernel_rfl) (by kernel_rfl)) ?_
  intro W base args ds gs before hval0 hW hcnd _
  have hval : ∀ (j : Nat) t v, Try.f6.params[j]? = some t → args[j]? = some v → Value.okWide Try.prog W .any base t v := hval0
  have hW' := hW
  obtain ⟨p, q, hA0, hV, rfl, hfz, hnd⟩ := hW
  have hA : DataW.TrodAll enc Try.prog W 0 (fun _ => true) true Try.f6.params.toList args.toList ds p := hA0
  rw [Try.params6] at hA hval
  obtain ⟨v0, vs0, e0, es0, p0, q0, hargs, rfl, rfl, h0, r0⟩ := trodAll_cons hA
  obtain ⟨rfl, rfl, rfl⟩ := trodAll_nil r0
  obtain rfl : args = #[v0] := by cases args; simp_all
  obtain ⟨rfl, rfl⟩ := trodVars_none hV
  have k0 := h0
  have lt0 : ∀ x ∈ p0, x.block < W.heap.size := by obtain ⟨m, hm⟩ := k0; exact DataW.trod_lt m _ _ _ hm
  obtain ⟨a0, len0, cap0, rfl⟩ := okWide_slice Try.underlying22 (hval 0 22 v0 rfl rfl)
  obtain ⟨z0, w0⟩ : ∃ zs, IsRow .u8 W a0 len0 cap0 zs := by
    obtain ⟨fuel, hf⟩ := h0
    rcases open_ints Try.underlying22 Try.underlying5 (by kernel_rfl) hf with ⟨hcs, _⟩ | ⟨x, l, c, zs, hcs, _, hl, hm, hz, _, hcell, hwz⟩
    · simp [Value.cells] at hcs
      obtain ⟨rfl, rfl, rfl⟩ := hcs
      exact ⟨[], .inl ⟨rfl, rfl, rfl, rfl⟩⟩
    · simp [Value.cells] at hcs
      obtain ⟨rfl, rfl, rfl⟩ := hcs
      exact ⟨zs, .inr ⟨_, rfl, hl, hm, by simpa using hz, hcell, hwz⟩⟩
  clear hA0 hval0
  refine (walk a0 len0 cap0 z0 W w0).mono fun e W' ⟨he, bel⟩ => ?_
  subst he
  exact ⟨_, rfl, _, _, _, [], _, [], hW', trodAll_mk1 (shut_bool Try.underlying4 _), (trodAll_cons_mk (Below.trod laidOut (by kernel_rfl) (of_decide_eq_true (by kernel_rfl)) k0 bel lt0) trodAll_mk0), rfl, bel.frame _, fun h => by cases h⟩

theorem over : Rows.fnInheritShareRow.holds Try.pinned (OpenSpec.ofChange Rows.fnInheritShareSpec) :=
  OpenClaim.holds_of_wide 6 Try.f6 rfl rfl rfl rfl rfl rfl rfl ⟨rfl, rfl, rfl, rfl, rfl⟩ rfl rfl rfl rfl rfl (by kernel_rfl) Try.func6 (by kernel_rfl)
    (of_decide_eq_true (by kernel_rfl)) (by unfold Func.isWrapper; first | (rw [if_pos (by decide +kernel)]; kernel_rfl) | (rw [if_neg (by decide +kernel)]; exact ⟨rfl, rfl⟩))
    (fun os started H enc _ => lifted os started H enc)

end Go.Proofs.Ytppnhhnilnikfaa.fnInheritShare
namespace Go.Proofs.Ytppnhhnilnikfaa
/-- the statement -/
theorem fnInheritShare_holds : Rows.FnInheritShareSaid := fnInheritShare.over
end Go.Proofs.Ytppnhhnilnikfaa
