/- For every input the law answers true, and its argument reads afterwards as before: accounts are told. No condition. -/
import Derived.Test.YtaehemmjemhgpaaRows
import Derived.Test.YtaehemmjemhgpaaPAG8
import Derived.Test.YtaehemmjemhgpaaPAG3
import Derived.Test.YtaehemmjemhgpaaPAG6
import Derived.Test.YtaehemmjemhgpaaPAG2
import Derived.WalkKit
import Derived.ProofKit
import Derived.OpenShut
import Derived.ShutString
import Derived.ChangeOld
import Derived.Below
import Derived.Lib.SmallJoins
set_option maxRecDepth 100000
set_option maxHeartbeats 16000000
namespace Go.Proofs.Ytaehemmjemhgpaa.fnUnitsTo
open Go.ChangeShapes Go.WideShapes Go.ChangeAt Go.RowKit Go.Joins
open Go.ChangeMaps (open_string shut_string)
set_option linter.unusedVariables false
set_option linter.unusedSimpArgs false

theorem own : ownKnob Try.prog.godebug = none := by kernel_rfl
theorem laidOut : laidOutB Try.prog = true := by kernel_rfl

theorem walk (a0 : Option Addr) (len0 cap0 : Nat) (z0 : List Int) (w : World) (w0 : IsRow .u8 w a0 len0 cap0 z0) :
    Calls Try.prog 7 #[.slice a0 len0 cap0] w fun e w' => e = .returned (.bool true) ∧ Below w.heap.size w w' := by
  by_cases big : (1048576 : Int) < (len0 : Int)
  · go_enter Try.func7, Try.ntmps7
    go_wp2
    go_ret
    exact ⟨rfl, Below.refl _ _⟩
  go_enter Try.func7, Try.ntmps7
  go_wp2_with fail
  refine (drawUt a0 len0 cap0 z0 _ w0).mono ?_
  rintro e u1 ⟨q, u, z, rfl, hI, B⟩
  clear w0 big
  have HI := Lib.hid (fun W (hW : Below u1.heap.size u1 W) => tw_below hI hW)
  obtain ⟨U, hU⟩ : ∃ y, y = u1.alloc (.cells #[.slice q.a1 u.hs.length q.c1, .slice q.a2 u.ts.length q.c2, .slice q.a3 u.ns.length q.c3, .int .i64 u.r, .int .i64 u.hd, .slice q.a4 u.ac.length q.c4, .int .i64 u.rt, .int .i64 u.tm, .int .i64 u.ls, .int .i64 u.cm] 49) := ⟨_, rfl⟩
  have D : Below u1.heap.size u1 U := by subst hU; exact (Below.refl _ _).alloc (Nat.le_refl _) _
  have KT : Blk U u1.heap.size 49 #[.slice q.a1 u.hs.length q.c1, .slice q.a2 u.ts.length q.c2, .slice q.a3 u.ns.length q.c3, .int .i64 u.r, .int .i64 u.hd, .slice q.a4 u.ac.length q.c4, .int .i64 u.rt, .int .i64 u.tm, .int .i64 u.ls, .int .i64 u.cm] := by subst hU; exact Blk.new _ _ _
  replace B := B.trans (D.mono B.size)
  have HU := Lib.hid hU
  clear hU hI
  go_upto_region 4 with fail
  rw [← HU.out]
  clear HU
  generalize u1.heap.size = gT at KT ⊢
  have CI := Lib.hid (fun W (hW : Below u1.heap.size u1 W) => iUnitsTo q u z W (HI.out W hW))
  have CS := Lib.hid (fun W (hW : Below u1.heap.size u1 W) => sUnitsTo q u z W (HI.out W hW))
  cases hv : twB u with
  | false =>
    rw [unV_no hv] at CI CS
    clear hv
    obtain ⟨f0_, f1_, f2_, f3_, f4_, f5_, f6_, f7_, f8_, f9_⟩ := town_cells KT
    go_wp2_with fail
    refine (CI.out _ D).mono ?_
    rintro e u2 ⟨rfl, C⟩
    clear f0_ f1_ f2_ f3_ f4_ f5_ f6_ f7_ f8_ f9_
    replace B := bel_tr B C
    replace D := bel_tr D C
    replace KT := KT.next C
    clear C
    obtain ⟨f0_, f1_, f2_, f3_, f4_, f5_, f6_, f7_, f8_, f9_⟩ := town_cells KT
    go_wp2_with fail
    refine (CS.out _ D).mono ?_
    rintro e u2 ⟨rfl, C⟩
    clear f0_ f1_ f2_ f3_ f4_ f5_ f6_ f7_ f8_ f9_
    replace B := bel_tr B C
    replace D := bel_tr D C
    replace KT := KT.next C
    clear C
    obtain ⟨f0_, f1_, f2_, f3_, f4_, f5_, f6_, f7_, f8_, f9_⟩ := town_cells KT
    go_wp2_with fail
    refine (CS.out _ D).mono ?_
    rintro e u2 ⟨rfl, C⟩
    clear f0_ f1_ f2_ f3_ f4_ f5_ f6_ f7_ f8_ f9_
    replace B := bel_tr B C
    replace D := bel_tr D C
    replace KT := KT.next C
    clear C
    obtain ⟨f0_, f1_, f2_, f3_, f4_, f5_, f6_, f7_, f8_, f9_⟩ := town_cells KT
    go_wp2_with fail
    go_ret
    exact ⟨rfl, B⟩
  | true =>
    rw [unV_yes hv] at CI CS
    have hle := unt_le (tw_ac hv) z
    obtain ⟨⟨d0, d1⟩, ⟨l0, l1⟩, ⟨m0, m1⟩⟩ := tw_nums hv
    have hac := tw_ac hv
    have hsum := tw_sum hv
    have HBD : Hid (∀ k, k ≤ u.ac.length → 0 ≤ acS u.ac k ∧ acS u.ac k ≤ 1000000) := fun k hk => by
      have a := acS_all hac hk
      omega
    have CA := Lib.hid (fun (k : Nat) (hk : k < u.ac.length) W (hW : Below u1.heap.size u1 W) => (by have h := iUnitsTo q u (u.ac.getD k ac0).1 W (HI.out W hW); rw [unV_yes hv, unt_ac hac hk] at h; exact h : Calls Try.prog 30 #[twV q u, .int .i64 (u.ac.getD k ac0).1] W fun e w' => e = .returned (.int .i64 (u.ac.getD k ac0).2) ∧ Below W.heap.size W w'))
    generalize untV u.ac z = un at CI CS hle
    have e0 : (un != un) = false := by simp
    have e1 : decide (un < 0) = false := decide_eq_false (by omega)
    have w1 : IntKind.i64.wrap (u.cm - u.ls) = u.cm - u.ls := by rw [IntKind.wrap_i64]; omega
    have w2 : IntKind.i64.wrap (u.cm - u.ls - u.hd) = u.cm - u.ls - u.hd := by rw [IntKind.wrap_i64]; omega
    have HSUM : Hid ((acS u.ac u.ac.length == u.cm - u.ls - u.hd) = true ∧ decide (un ≤ acS u.ac u.ac.length) = true) := ⟨by rw [beq_iff_eq]; omega, decide_eq_true hle.2⟩
    clear hv hac m0 m1 d0 d1 l0 l1 hle hsum
    obtain ⟨f0_, f1_, f2_, f3_, f4_, f5_, f6_, f7_, f8_, f9_⟩ := town_cells KT
    go_wp2_with fail
    refine (CI.out _ D).mono ?_
    rintro e u2 ⟨rfl, C⟩
    clear f0_ f1_ f2_ f3_ f4_ f5_ f6_ f7_ f8_ f9_
    replace B := bel_tr B C
    replace D := bel_tr D C
    replace KT := KT.next C
    clear C
    obtain ⟨f0_, f1_, f2_, f3_, f4_, f5_, f6_, f7_, f8_, f9_⟩ := town_cells KT
    go_wp2_with fail
    refine (CS.out _ D).mono ?_
    rintro e u2 ⟨rfl, C⟩
    clear f0_ f1_ f2_ f3_ f4_ f5_ f6_ f7_ f8_ f9_
    replace B := bel_tr B C
    replace D := bel_tr D C
    replace KT := KT.next C
    clear C
    obtain ⟨f0_, f1_, f2_, f3_, f4_, f5_, f6_, f7_, f8_, f9_⟩ := town_cells KT
    go_wp2_with fail
    clear CI CS e0 e1
    clear f0_ f1_ f2_ f3_ f4_ f5_ f6_ f7_ f8_ f9_
    have HN4 := Lib.hid (HI.out _ (Below.refl _ _)).n4
    obtain ⟨w8, hw8⟩ : ∃ y, y = u2 := ⟨_, rfl⟩
    subst hw8
    have KT0 := KT
    have B0 := B
    have D0 := D
    clear KT B D
    go_loopw [6, 7] (fun v i wr => ∃ k : Nat, k ≤ u.ac.length ∧ i = .int .i64 (k : Int) ∧ v = .int .i64 (acS u.ac k) ∧ Below w.heap.size w wr ∧ Below u1.heap.size u1 wr ∧ Blk wr gT 49 #[.slice q.a1 u.hs.length q.c1, .slice q.a2 u.ts.length q.c2, .slice q.a3 u.ns.length q.c3, .int .i64 u.r, .int .i64 u.hd, .slice q.a4 u.ac.length q.c4, .int .i64 u.rt, .int .i64 u.tm, .int .i64 u.ls, .int .i64 u.cm]) (fun _ i _ => u.ac.length - (intOf i).toNat)
    case atStart => exact ⟨0, Nat.zero_le _, rfl, rfl, B0, D0, KT0⟩
    case round =>
      clear KT0 B0 D0
      obtain ⟨k, hk, rfl, rfl, B, D, KT⟩ := hrel
      by_cases hlt : k < u.ac.length
      · have hbd := HBD.out k hk
        have hbd2 := HBD.out (k + 1) hlt
        have e2 : acS u.ac (k + 1) = acS u.ac k + (u.ac.getD k ac0).2 := rfl
        have CU := Lib.hid (CA.out k hlt)
        rcases (HI.out _ D).h4 with hd0 | ⟨g, o, ha, hg⟩
        · rw [hd0] at hlt; exact absurd hlt (Nat.not_lt_zero _)
        obtain ⟨c0, _⟩ := hg k hlt
        have lg := World.block_lt_of_cell? wr _ c0
        have n4 := HN4.out
        have wk : IntKind.i64.wrap ((k : Int) + 1) = (k : Int) + 1 := by rw [IntKind.wrap_i64]; omega
        clear n4
        have k0 : (0 : Int) ≤ (k : Int) := by omega
        have k1 : (k : Int) < (u.ac.length : Int) := by omega
        have w3 : IntKind.i64.wrap (acS u.ac k + (u.ac.getD k ac0).2) = acS u.ac k + (u.ac.getD k ac0).2 := by rw [IntKind.wrap_i64]; omega
        have HE : Hid (acS u.ac k + (u.ac.getD k ac0).2 = acS u.ac (k + 1)) := e2.symm
        have lT := KT.lt
        have HKT := Lib.hid KT
        clear hg hbd hbd2 e2
        obtain ⟨f0_, f1_, f2_, f3_, f4_, f5_, f6_, f7_, f8_, f9_⟩ := town_cells KT
        clear KT
        generalize (u.ac.getD k ac0).1 = ow at c0 CU
        generalize (u.ac.getD k ac0).2 = un2 at CU w3 HE
        rw [ha] at f5_
        have f5b := f5_
        have MK := Lib.hid (fun (W : World) (hW : Below wr.heap.size wr W) => (⟨⟨(hW.cell (p := ⟨gT, 0, none⟩) lT).trans f0_, (hW.cell (p := ⟨gT, 1, none⟩) lT).trans f1_, (hW.cell (p := ⟨gT, 2, none⟩) lT).trans f2_, (hW.cell (p := ⟨gT, 3, none⟩) lT).trans f3_, (hW.cell (p := ⟨gT, 4, none⟩) lT).trans f4_, (hW.cell (p := ⟨gT, 5, none⟩) lT).trans f5_, (hW.cell (p := ⟨gT, 6, none⟩) lT).trans f6_, (hW.cell (p := ⟨gT, 7, none⟩) lT).trans f7_, (hW.cell (p := ⟨gT, 8, none⟩) lT).trans f8_, (hW.cell (p := ⟨gT, 9, none⟩) lT).trans f9_, (hW.cell (p := ⟨g, o + k * 2, none⟩) lg).trans c0⟩, hW⟩ : (W.cell? ⟨gT, 0, none⟩ = some (.slice q.a1 u.hs.length q.c1) ∧ W.cell? ⟨gT, 1, none⟩ = some (.slice q.a2 u.ts.length q.c2) ∧ W.cell? ⟨gT, 2, none⟩ = some (.slice q.a3 u.ns.length q.c3) ∧ W.cell? ⟨gT, 3, none⟩ = some (.int .i64 u.r) ∧ W.cell? ⟨gT, 4, none⟩ = some (.int .i64 u.hd) ∧ W.cell? ⟨gT, 5, none⟩ = some (.slice (some ⟨g, o, none⟩) u.ac.length q.c4) ∧ W.cell? ⟨gT, 6, none⟩ = some (.int .i64 u.rt) ∧ W.cell? ⟨gT, 7, none⟩ = some (.int .i64 u.tm) ∧ W.cell? ⟨gT, 8, none⟩ = some (.int .i64 u.ls) ∧ W.cell? ⟨gT, 9, none⟩ = some (.int .i64 u.cm) ∧ W.cell? ⟨g, o + k * 2, none⟩ = some (.int .i64 ow)) ∧ Below wr.heap.size wr W))
        have CU2 : Hid (∀ W, Below u1.heap.size u1 W → Calls Try.prog 30 #[.agg #[.slice q.a1 u.hs.length q.c1, .slice q.a2 u.ts.length q.c2, .slice q.a3 u.ns.length q.c3, .int .i64 u.r, .int .i64 u.hd, .slice (some ⟨g, o, none⟩) u.ac.length q.c4, .int .i64 u.rt, .int .i64 u.tm, .int .i64 u.ls, .int .i64 u.cm], .int .i64 ow] W fun e w' => e = .returned (.int .i64 un2) ∧ Below W.heap.size W w') := by
          have h := CU.out
          unfold twV at h
          rw [ha] at h
          exact h
        clear f5b CU ha
        have CU := CU2
        clear CU2
        go_wp2_with fail
        refine wp_region_held_drew (S := (fun w' => (w'.cell? ⟨gT, 0, none⟩ = some (.slice q.a1 u.hs.length q.c1) ∧ w'.cell? ⟨gT, 1, none⟩ = some (.slice q.a2 u.ts.length q.c2) ∧ w'.cell? ⟨gT, 2, none⟩ = some (.slice q.a3 u.ns.length q.c3) ∧ w'.cell? ⟨gT, 3, none⟩ = some (.int .i64 u.r) ∧ w'.cell? ⟨gT, 4, none⟩ = some (.int .i64 u.hd) ∧ w'.cell? ⟨gT, 5, none⟩ = some (.slice (some ⟨g, o, none⟩) u.ac.length q.c4) ∧ w'.cell? ⟨gT, 6, none⟩ = some (.int .i64 u.rt) ∧ w'.cell? ⟨gT, 7, none⟩ = some (.int .i64 u.tm) ∧ w'.cell? ⟨gT, 8, none⟩ = some (.int .i64 u.ls) ∧ w'.cell? ⟨gT, 9, none⟩ = some (.int .i64 u.cm) ∧ w'.cell? ⟨g, o + k * 2, none⟩ = some (.int .i64 ow)) ∧ Below wr.heap.size wr w')) (by kernel_rfl) ?_ (fun hHeld => ?_)
        · exact MK.out _ (Below.refl _ _).drew
        refine wpAnyH_take (i := 0) (oi := ?oot1) (v := ?vvt1) ?hit1 (by kernel_rfl) ?h3t1 ?h4t1 ?h5t1 ?h6t1 (by assumption) ?h8t1
        case hit1 => (simp only [List.getElem?_toArray, List.getElem?_cons_succ, List.getElem?_cons_zero]; rfl)
        case h3t1 => kernel_rfl
        case h4t1 => kernel_rfl
        case h6t1 => (refine Or.inl ⟨by rfl, ?_⟩; intro w hSw; (try dsimp only at hSw); (go_simp <;> with_reducible rfl))
        case h5t1 => exact fun _ _ _ h => h
        try simp only [Act.put, List.setIfInBounds_toArray, List.set_cons_zero, List.set_cons_succ]
        refine wpAnyH_take (i := 1) (oi := ?oot2) (v := ?vvt2) ?hit2 (by kernel_rfl) ?h3t2 ?h4t2 ?h5t2 ?h6t2 (by assumption) ?h8t2
        case hit2 => (simp only [List.getElem?_toArray, List.getElem?_cons_succ, List.getElem?_cons_zero]; rfl)
        case h3t2 => kernel_rfl
        case h4t2 => kernel_rfl
        case h6t2 => (refine Or.inl ⟨by rfl, ?_⟩; intro w hSw; (try dsimp only at hSw); (go_simp <;> with_reducible rfl))
        case h5t2 => exact fun _ _ _ h => h
        try simp only [Act.put, List.setIfInBounds_toArray, List.set_cons_zero, List.set_cons_succ]
        refine wpAnyH_take (i := 2) (oi := ?oot3) (v := ?vvt3) ?hit3 (by kernel_rfl) ?h3t3 ?h4t3 ?h5t3 ?h6t3 (by assumption) ?h8t3
        case hit3 => (simp only [List.getElem?_toArray, List.getElem?_cons_succ, List.getElem?_cons_zero]; rfl)
        case h3t3 => kernel_rfl
        case h4t3 => kernel_rfl
        case h6t3 => (refine Or.inl ⟨by rfl, ?_⟩; intro w hSw; (try dsimp only at hSw); (go_simp <;> with_reducible rfl))
        case h5t3 => exact fun _ _ _ h => h
        try simp only [Act.put, List.setIfInBounds_toArray, List.set_cons_zero, List.set_cons_succ]
        refine wpAnyH_take (i := 3) (oi := ?oot4) (v := ?vvt4) ?hit4 (by kernel_rfl) ?h3t4 ?h4t4 ?h5t4 ?h6t4 (by assumption) ?h8t4
        case hit4 => (simp only [List.getElem?_toArray, List.getElem?_cons_succ, List.getElem?_cons_zero]; rfl)
        case h3t4 => kernel_rfl
        case h4t4 => kernel_rfl
        case h6t4 => (refine Or.inl ⟨by rfl, ?_⟩; intro w hSw; (try dsimp only at hSw); (go_simp <;> with_reducible rfl))
        case h5t4 => exact fun _ _ _ h => h
        try simp only [Act.put, List.setIfInBounds_toArray, List.set_cons_zero, List.set_cons_succ]
        refine wpAnyH_take (i := 4) (oi := ?oot5) (v := ?vvt5) ?hit5 (by kernel_rfl) ?h3t5 ?h4t5 ?h5t5 ?h6t5 (by assumption) ?h8t5
        case hit5 => (simp only [List.getElem?_toArray, List.getElem?_cons_succ, List.getElem?_cons_zero]; rfl)
        case h3t5 => kernel_rfl
        case h4t5 => kernel_rfl
        case h6t5 => (refine Or.inl ⟨by rfl, ?_⟩; intro w hSw; (try dsimp only at hSw); (go_simp <;> with_reducible rfl))
        case h5t5 => exact fun _ _ _ h => h
        try simp only [Act.put, List.setIfInBounds_toArray, List.set_cons_zero, List.set_cons_succ]
        refine wpAnyH_take (i := 5) (oi := ?oot6) (v := ?vvt6) ?hit6 (by kernel_rfl) ?h3t6 ?h4t6 ?h5t6 ?h6t6 (by assumption) ?h8t6
        case hit6 => (simp only [List.getElem?_toArray, List.getElem?_cons_succ, List.getElem?_cons_zero]; rfl)
        case h3t6 => kernel_rfl
        case h4t6 => kernel_rfl
        case h6t6 => (refine Or.inl ⟨by rfl, ?_⟩; intro w hSw; (try dsimp only at hSw); (go_simp <;> with_reducible rfl))
        case h5t6 => exact fun _ _ _ h => h
        try simp only [Act.put, List.setIfInBounds_toArray, List.set_cons_zero, List.set_cons_succ]
        refine wpAnyH_take (i := 6) (oi := ?oot7) (v := ?vvt7) ?hit7 (by kernel_rfl) ?h3t7 ?h4t7 ?h5t7 ?h6t7 (by assumption) ?h8t7
        case hit7 => (simp only [List.getElem?_toArray, List.getElem?_cons_succ, List.getElem?_cons_zero]; rfl)
        case h3t7 => kernel_rfl
        case h4t7 => kernel_rfl
        case h6t7 => (refine Or.inl ⟨by rfl, ?_⟩; intro w hSw; (try dsimp only at hSw); (go_simp <;> with_reducible rfl))
        case h5t7 => exact fun _ _ _ h => h
        try simp only [Act.put, List.setIfInBounds_toArray, List.set_cons_zero, List.set_cons_succ]
        refine wpAnyH_take (i := 7) (oi := ?oot8) (v := ?vvt8) ?hit8 (by kernel_rfl) ?h3t8 ?h4t8 ?h5t8 ?h6t8 (by assumption) ?h8t8
        case hit8 => (simp only [List.getElem?_toArray, List.getElem?_cons_succ, List.getElem?_cons_zero]; rfl)
        case h3t8 => kernel_rfl
        case h4t8 => kernel_rfl
        case h6t8 => (refine Or.inl ⟨by rfl, ?_⟩; intro w hSw; (try dsimp only at hSw); (go_simp <;> with_reducible rfl))
        case h5t8 => exact fun _ _ _ h => h
        try simp only [Act.put, List.setIfInBounds_toArray, List.set_cons_zero, List.set_cons_succ]
        refine wpAnyH_ready (rs := [8]) (by kernel_rfl) (by simp) (AllReadyH.cons (o := ?oot9) ?hit9 (fun K hK => ?hkt9) AllReadyH.nil)
        rotate_left
        case hit9 => (simp only [List.getElem?_toArray, List.getElem?_cons_succ, List.getElem?_cons_zero]; rfl)
        (rw [if_pos (by rfl)]; go_simp; refine (CU.out _ (D.trans (hHeld.2.mono D.size))).mono ?_; rintro e W2 ⟨rfl, hb⟩; have KK := MK.out _ (bel_tr hHeld.2 hb); go_wp2_with fail; refine hK.out _ _ (KK) (fun hHeld => ?_); clear hK K)
        try simp only [Act.put, List.setIfInBounds_toArray, List.set_cons_zero, List.set_cons_succ]
        refine wpAnyH_take (i := 9) (oi := ?oot10) (v := ?vvt10) ?hit10 (by kernel_rfl) ?h3t10 ?h4t10 ?h5t10 ?h6t10 (by assumption) ?h8t10
        case hit10 => (simp only [List.getElem?_toArray, List.getElem?_cons_succ, List.getElem?_cons_zero]; rfl)
        case h3t10 => kernel_rfl
        case h4t10 => kernel_rfl
        case h6t10 => (refine Or.inl ⟨by rfl, ?_⟩; intro w hSw; (try dsimp only at hSw); (go_simp <;> with_reducible rfl))
        case h5t10 => exact fun _ _ _ h => h
        try simp only [Act.put, List.setIfInBounds_toArray, List.set_cons_zero, List.set_cons_succ]
        refine wpAnyH_take (i := 10) (oi := ?oot11) (v := ?vvt11) ?hit11 (by kernel_rfl) ?h3t11 ?h4t11 ?h5t11 ?h6t11 (by assumption) ?h8t11
        case hit11 => (simp only [List.getElem?_toArray, List.getElem?_cons_succ, List.getElem?_cons_zero]; rfl)
        case h3t11 => kernel_rfl
        case h4t11 => kernel_rfl
        case h6t11 => (refine Or.inl ⟨by rfl, ?_⟩; intro w hSw; (try dsimp only at hSw); (go_simp <;> with_reducible rfl))
        case h5t11 => exact fun _ _ _ h => h
        try simp only [Act.put, List.setIfInBounds_toArray, List.set_cons_zero, List.set_cons_succ]
        refine wpAnyH_done (by kernel_rfl) ?_ _
        have HW := Lib.hid hHeld.2
        clear KK hHeld hb
        go_wp2_with fail
        go_roundw
        case rel => exact ⟨k + 1, by omega, by go_num, by rw [HE.out], bel_tr B HW.out, bel_tr D HW.out, HKT.out.next HW.out⟩
        case measure => simp [intOf]; omega
      · obtain rfl : k = u.ac.length := by omega
        obtain ⟨e3, e4⟩ := HSUM.out
        obtain ⟨f0_, f1_, f2_, f3_, f4_, f5_, f6_, f7_, f8_, f9_⟩ := town_cells KT
        go_wp2_with fail
        go_ret
        exact ⟨rfl, B⟩

theorem lifted (os : Os) (started : os.Started) (H : Type) (enc : TypeId × Value → H) :
    ReturnsInHanded {} Try.checked os 7 .any (Rows.fnUnitsToSpec.pre6 enc Try.prog Try.f7 Rows.fnUnitsToRow.domain false) (Rows.fnUnitsToSpec.post enc Try.prog Try.f7 false true false false) := by
  refine returnsInHanded_of_change (C := Try.checked) own started (by kernel_rfl) Try.func7
    (ChangeSpec.witness6 (enc := enc) (C := Try.checked) false ⟨#[], #[.slice none 0 0], []⟩ 8 (by kernel_rfl) (by kernel_rfl) (by kernel_rfl) (by kernel_rfl)) ?_
  intro W base args ds gs before hval0 hW hcnd _
  have hval : ∀ (j : Nat) t v, Try.f7.params[j]? = some t → args[j]? = some v → Value.okWide Try.prog W .any base t v := hval0
  have hW' := hW
  obtain ⟨p, q, hA0, hV, rfl, hfz, hnd⟩ := hW
  have hA : DataW.TrodAll enc Try.prog W 0 (fun _ => true) true Try.f7.params.toList args.toList ds p := hA0
  rw [Try.params7] at hA hval
  obtain ⟨v0, vs0, e0, es0, p0, q0, hargs, rfl, rfl, h0, r0⟩ := trodAll_cons hA
  obtain ⟨rfl, rfl, rfl⟩ := trodAll_nil r0
  obtain rfl : args = #[v0] := by cases args; simp_all
  obtain ⟨rfl, rfl⟩ := trodVars_none hV
  have k0 := h0
  have lt0 : ∀ x ∈ p0, x.block < W.heap.size := by obtain ⟨m, hm⟩ := k0; exact DataW.trod_lt m _ _ _ hm
  obtain ⟨a0, len0, cap0, rfl⟩ := okWide_slice Try.underlying22 (hval 0 22 v0 rfl rfl)
  obtain ⟨z0, w0⟩ : ∃ zs, IsRow .u8 W a0 len0 cap0 zs := by
    obtain ⟨fuel, hf⟩ := h0
    rcases open_ints Try.underlying22 Try.underlying5 (by kernel_rfl) hf with ⟨hcs, _⟩ | ⟨x, l, c, zs, hcs, _, hl, hm, hz, _, hcell, hwz⟩
    · simp [Value.cells] at hcs
      obtain ⟨rfl, rfl, rfl⟩ := hcs
      exact ⟨[], .inl ⟨rfl, rfl, rfl, rfl⟩⟩
    · simp [Value.cells] at hcs
      obtain ⟨rfl, rfl, rfl⟩ := hcs
      exact ⟨zs, .inr ⟨_, rfl, hl, hm, by simpa using hz, hcell, hwz⟩⟩
  clear hA0 hval0
  refine (walk a0 len0 cap0 z0 W w0).mono fun e W' ⟨he, bel⟩ => ?_
  subst he
  exact ⟨_, rfl, _, _, _, [], _, [], hW', trodAll_mk1 (shut_bool Try.underlying4 _), (trodAll_cons_mk (Below.trod laidOut (by kernel_rfl) (of_decide_eq_true (by kernel_rfl)) k0 bel lt0) trodAll_mk0), rfl, bel.frame _, fun h => by cases h⟩

theorem over : Rows.fnUnitsToRow.holds Try.pinned (OpenSpec.ofChange Rows.fnUnitsToSpec) :=
  OpenClaim.holds_of_wide 7 Try.f7 rfl rfl rfl rfl rfl rfl rfl ⟨rfl, rfl, rfl, rfl, rfl⟩ rfl rfl rfl rfl rfl (by kernel_rfl) Try.func7 (by kernel_rfl)
    (of_decide_eq_true (by kernel_rfl)) (by unfold Func.isWrapper; first | (rw [if_pos (by decide +kernel)]; kernel_rfl) | (rw [if_neg (by decide +kernel)]; exact ⟨rfl, rfl⟩))
    (fun os started H enc _ => lifted os started H enc)

end Go.Proofs.Ytaehemmjemhgpaa.fnUnitsTo
namespace Go.Proofs.Ytaehemmjemhgpaa
/-- the statement -/
theorem fnUnitsTo_holds : Rows.FnUnitsToSaid := fnUnitsTo.over
end Go.Proofs.Ytaehemmjemhgpaa
