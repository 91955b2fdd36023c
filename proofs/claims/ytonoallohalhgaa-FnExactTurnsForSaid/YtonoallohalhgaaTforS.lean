/- spec.TurnsFor. Condition: at most 1048576 holdings. -/
import Derived.Test.YtonoallohalhgaaTfor
import Derived.Test.YtonoallohalhgaaRestS
import Derived.Deep.RegionHeld3
import Derived.BigRegion
import Derived.Maps.AppendAt
namespace Go.Proofs.Ytonoallohalhgaa
open Go.RowKit
set_option linter.unusedSimpArgs false
set_option linter.unusedVariables false
theorem sinRangeT (n l h : Int) (w : World) :
    Calls Try.prog 22 #[.int .i64 n, .int .i64 l, .int .i64 h] w fun e w' => e = .returned (.bool (decide (l ≤ n) && decide (n ≤ h))) ∧ w = w' := by
  by_cases c : n < l ∨ h < n
  · have e : (decide (l ≤ n) && decide (n ≤ h)) = false := by
      rcases c with c | c
      · rw [decide_eq_false (by omega : ¬ l ≤ n)]; rfl
      · rw [decide_eq_false (by omega : ¬ n ≤ h)]; simp
    rw [e]; exact inRange_no n l h w c
  · rw [decide_eq_true (by omega : l ≤ n), decide_eq_true (by omega : n ≤ h)]; exact inRange_yes n l h w (by omega) (by omega)
theorem own_drewT {w : World} {base n : Nat} {v : Value} {xs : List Value} (h : w.ownsRow base 52 2 v n xs) : w.drew.ownsRow base 52 2 v n xs := h
theorem g_transO {a b c : World} {row : Option Nat} (h : a.grownBy b row) (k : b.grownBy c row) : a.grownBy c row :=
  ⟨k.os.trans h.os, k.tape.trans h.tape, k.output.trans h.output, Nat.le_trans h.size k.size, fun i hi hne => (k.block i (Nat.lt_of_lt_of_le hi h.size) hne).trans (h.block i hi hne)⟩
theorem kp2g {W wq v : World} {row : Option Nat} {g0 g5 a0 a1 : Nat} {v0 v1 : Value} (hg : W.grownBy wq row) (n0 : row ≠ some g0) (n5 : row ≠ some g5)
    (h : (W.cell? ⟨g0, a0, none⟩ = some v0 ∧ W.cell? ⟨g5, a1, none⟩ = some v1) ∧ v.grownBy W row) : (wq.cell? ⟨g0, a0, none⟩ = some v0 ∧ wq.cell? ⟨g5, a1, none⟩ = some v1) ∧ v.grownBy wq row := by
  obtain ⟨⟨a, b⟩, g⟩ := h
  have k : ∀ {q o : Nat} {u : Value}, row ≠ some q → W.cell? ⟨q, o, none⟩ = some u → wq.cell? ⟨q, o, none⟩ = some u := fun hn hp => (World.cell?_of_block (hg.block _ (World.block_lt_of_cell? W _ hp) (fun e => hn e.symm))).trans hp
  exact ⟨⟨k n0 a, k n5 b⟩, g_transO g hg⟩
set_option maxRecDepth 100000 in
set_option maxHeartbeats 8000000 in
theorem sTurnsFor (a : Option Addr) (cap : Nat) (hs : List Hd) (n : Int) (w : World) (h : IsHs w a hs) (hn : hs.length ≤ 1048576) :
    Calls Try.prog 6 #[.slice a hs.length cap, .int .i64 n] w (OutTT w (tfB hs n) (tfL hs n)) := by
  by_cases hcd : cdR hs = -1
  · have CU := sUnits_no a cap hs w h hn hcd
    rw [tf_no (.inl hcd)]
    clear h hcd
    go_enter Try.func6, Try.ntmps6
    go_wp2_with fail
    refine CU.mono ?_
    rintro e w1 ⟨rfl, C⟩
    go_wp2_with fail
    go_returns
    exact tt_no rfl C
  have CU := sUnits a cap hs w h hn hcd
  have hul := un_len hs
  have hl1 : 1 ≤ hs.length := by
    rcases hs with _ | ⟨x, t⟩
    · exact absurd (vlR_is (cd_pos hcd).1).2.one (by decide)
    · simp
  have q0 : ((hs.length : Int) == 0) = false := beq_eq_false_iff_ne.2 (by omega)
  have q1 : (hs.length == 0) = false := beq_eq_false_iff_ne.2 (by omega)
  have CW := Lib.hid (fun (b : Option Addr) (c : Nat) W (hW : IsInts W b (unR hs)) => (by have := svalidSplit n b c (unR hs) W hW (by rw [hul]; exact hn); rw [hul] at this; exact this : Calls Try.prog 21 #[.int .i64 n, .slice b hs.length c] W fun e w' => e = .returned (.bool (csB n (unR hs))) ∧ W = w'))
  have CN := fun W => sinRangeT n 1 336 W
  cases hv : csB n (unR hs) with
  | false =>
    have hno : tfB hs n = false := by
      cases c : tfB hs n with
      | false => rfl
      | true =>
        unfold tfB at c
        simp only [Bool.and_eq_true, decide_eq_true_eq] at c
        rw [tf_cs c.1.2.1 c.1.2.2 c.2] at hv; cases hv
    rw [hno]
    rw [hv] at CW
    clear h hcd hv hul hno CN
    go_enter Try.func6, Try.ntmps6
    go_wp2_with fail
    refine CU.mono ?_
    rintro e w1 ⟨v, rfl, R1, C⟩
    obtain ⟨b1, cp1, rfl, I1⟩ := own_unitsT R1
    go_wp2_with fail
    refine (CW.out _ _ _ I1).mono ?_
    rintro e w' ⟨rfl, rfl⟩
    clear R1 I1
    go_wp2_with fail
    go_returns
    exact tt_no rfl C
  | true =>
  rw [hv] at CW
  cases hr : (decide (1 ≤ n) && decide (n ≤ 336)) with
  | false =>
    have hno : tfB hs n = false := by unfold tfB; rw [hr]; simp
    rw [hno]
    rw [hr] at CN
    clear h hcd hv hul hno hr
    go_enter Try.func6, Try.ntmps6
    go_wp2_with fail
    refine CU.mono ?_
    rintro e w1 ⟨v, rfl, R1, C⟩
    obtain ⟨b1, cp1, rfl, I1⟩ := own_unitsT R1
    go_wp2_with fail
    refine (CW.out _ _ _ I1).mono ?_
    rintro e w' ⟨rfl, rfl⟩
    clear R1 I1
    go_wp2_with fail
    refine (CN _).mono ?_
    rintro e w' ⟨rfl, rfl⟩
    go_wp2_with fail
    go_returns
    exact tt_no rfl C
  | true =>
    have hr2 := hr
    simp only [Bool.and_eq_true, decide_eq_true_eq] at hr2
    have hvw : vwB (unR hs) = true := by
      unfold csB at hv; rw [Bool.and_eq_true] at hv; exact hv.2
    have hcs := hv
    rw [tf_yes hcd hr2.1 hr2.2 hvw]
    rw [hr] at CN
    have HS := Lib.hid (tf_some (hs := hs) hr2.1 hcs)
    have CR := Lib.hid (fun (b : Option Addr) (c : Nat) W (hW : IsInts W b (unR hs)) => (by have := sbyRest n b c (unR hs) W hW (by rw [hul]; exact hn) hcs; rw [hul] at this; exact this : Calls Try.prog 23 #[.int .i64 n, .slice b hs.length c] W (DivS hs.length (sr n (unR hs)) W)))
    have hgl : (sr n (unR hs)).length = hs.length := by rw [sr_len, hul]
    have hL : tfL hs n = tfTo hs (sr n (unR hs)) hs.length := rfl
    rw [hL] at HS ⊢
    have HTL := Lib.hid (fun k => tfTo_len hs (sr n (unR hs)) k)
    obtain ⟨i0, hi0, hz0, hz1, hz2⟩ := info_parts infoTn
    rcases h with rfl | ⟨g0, o, rfl, hcl⟩
    · exact absurd HS.out (by show ¬ 0 < 0; omega)
    have hg0 : g0 < w.heap.size := World.block_lt_of_cell? w _ (hcl 0 (by omega)).1
    have HC := Lib.hid hcl
    clear hv hcd hcl hcs hL hr hr2 hvw hul
    go_enter Try.func6, Try.ntmps6
    go_wp2_with fail
    refine CU.mono ?_
    rintro e w1 ⟨v, rfl, R1, C⟩
    obtain ⟨b1, cp1, rfl, I1⟩ := own_unitsT R1
    clear R1
    go_wp2_with fail
    refine (CW.out _ _ _ I1).mono ?_
    rintro e w' ⟨rfl, rfl⟩
    go_wp2_with fail
    refine (CN _).mono ?_
    rintro e w' ⟨rfl, rfl⟩
    have hO : (w1.alloc (.cells #[] 52)).ownsRow w1.heap.size 52 2 (.slice (some ⟨w1.heap.size, 0, none⟩) 0 0) 0 [] := ⟨by simp, .inr ⟨w1.heap.size, 0, #[], rfl, Nat.le_refl _, Go.Deep.blk_alloc_new _ _, Nat.le_refl _, by unfold maxLen; omega, rfl, rfl⟩⟩
    have HOw := Lib.hid hO
    have hS := C.size
    have CRa := CR.out _ cp1 _ (ints_below I1 ((Below.refl w1.heap.size w1).alloc (Nat.le_refl _) (.cells #[] 52)))
    have HB := Lib.hid (C.alloc C.size (.cells #[] 52))
    have HK := Lib.hid (Blk.new w1 52 #[])
    have hszA : w1.heap.size < (w1.alloc (.cells #[] 52)).heap.size := by simp
    clear C hO I1 CR CW CU CN
    generalize unR hs = us at *
    generalize sr n us = gs at *
    go_wp2_with fail
    refine CRa.mono ?_
    rintro e w2 ⟨b2, cp2, rfl, I2, C2⟩
    rcases I2 with rfl | ⟨g2, o2, rfl, hc2⟩
    · simp at hgl; omega
    have hne : w1.heap.size ≠ g2 := fun e => by
      have a := hc2 0 (by omega)
      rw [← e, (HK.out.next C2).cell] at a
      simp at a
    have HR2 : Hid (w2.ownsRow w1.heap.size 52 2 (.slice (some ⟨w1.heap.size, 0, none⟩) 0 0) 0 [] ∧ (∀ i, i < hs.length → w2.cell? ⟨g2, o2 + i, none⟩ = some (.int .i64 (gs.getD i 0))) ∧ Below w.heap.size w w2) := ⟨own_nextT HOw.out C2, fun i hi => hc2 i (by omega), bel_tr HB.out C2⟩
    have hs12 : w1.heap.size < w2.heap.size := by have := C2.size; omega
    clear CRa hc2 C2 HOw HB HK
    go_wp2_with fail
    go_loopw [7, 9] (fun v i wr => ∃ k : Nat, k ≤ hs.length ∧ i = .int .i64 k ∧ Hid (wr.ownsRow w1.heap.size 52 2 v (tfTo hs gs k).length (valsTn (tfTo hs gs k)) ∧ (∀ i, i < hs.length → wr.cell? ⟨g2, o2 + i, none⟩ = some (.int .i64 (gs.getD i 0))) ∧ Below w.heap.size w wr ∧ v.ownBlock ≠ some g2) ∧ w1.heap.size < wr.heap.size) (fun _ i _ => hs.length - (intOf i).toNat)
    case atStart => exact ⟨0, Nat.zero_le _, rfl, ⟨HR2.out.1, HR2.out.2.1, HR2.out.2.2, fun c => hne (Option.some.inj c)⟩, hs12⟩
    case round =>
      clear HR2
      obtain ⟨k, hk, rfl, HR, hsw⟩ := hrel
      by_cases hlt : k < hs.length
      · have c0 := hs_at HC.out HR.out.2.2.1 hlt
        have c1 := HR.out.2.1 k hlt
        have hll := HTL.out k
        have ny := fun h => tfTo_yes (hs := hs) (gs := gs) (k := k) h
        have nn := fun h => tfTo_no (hs := hs) (gs := gs) (k := k) h
        have hszr := World.block_lt_of_cell? wr _ c1
        generalize (hs.getD k hd0).1 = x0 at c0 ny
        generalize gs.getD k 0 = y at c1 ny nn
        have b0 : (0 : Int) ≤ (k : Int) := by omega
        have b1_ : (k : Int) < (hs.length : Int) := by omega
        by_cases hy0 : 0 < y
        · have e3 : decide (0 < y) = true := decide_eq_true hy0
          have HN := Lib.hid (ny hy0)
          clear ny nn hy0
          have HRR := HR
          obtain ⟨out, hout⟩ : ∃ out, tfTo hs gs k = out := ⟨_, rfl⟩
          have HN2 : Hid (tfTo hs gs (k + 1) = out ++ [(x0, y)]) := by show _ = _; rw [HN.out, hout]
          have HO : Hid (wr.ownsRow w1.heap.size 52 2 u7 out.length (valsTn out)) := by show World.ownsRow _ _ _ _ _ _ _; rw [← hout]; exact HR.out.1
          have n0 : u7.ownBlock ≠ some g0 := fun e => by have := (HO.out.lt g0 e).1; omega
          have n5 : u7.ownBlock ≠ some g2 := HR.out.2.2.2
          rw [hout] at hll
          clear HN hout HR
          go_wp2_with fail
          refine wp_region_held_drew (S := (fun W' => (W'.cell? ⟨g0, o + k * 3, none⟩ = some (.int .i64 x0) ∧ W'.cell? ⟨g2, o2 + k, none⟩ = some (.int .i64 y)) ∧ wr.grownBy W' u7.ownBlock)) (by kernel_rfl) ?_ (fun hHeld => ?_)
          · exact ⟨⟨c0, c1⟩, g_drewN (g_of (Below.refl _ _) _) 1⟩
          refine wpAnyH_take (i := 0) (oi := ?ooa0) (v := ?vva0) ?hia0 (by kernel_rfl) ?h3a0 ?h4a0 ?h5a0 ?h6a0 (by assumption) ?h8a0
          case hia0 => (simp only [List.getElem?_toArray, List.getElem?_cons_succ, List.getElem?_cons_zero]; rfl)
          case h3a0 => kernel_rfl
          case h4a0 => kernel_rfl
          case h6a0 => (refine Or.inl ⟨by rfl, ?_⟩; intro w hSw; (try dsimp only at hSw); (go_simp <;> with_reducible rfl))
          case h5a0 => exact fun _ _ _ h => h
          try simp only [Act.put, List.setIfInBounds_toArray, List.set_cons_zero, List.set_cons_succ]
          refine wpAnyH_take (i := 1) (oi := ?ooa1) (v := ?vva1) ?hia1 (by kernel_rfl) ?h3a1 ?h4a1 ?h5a1 ?h6a1 (by assumption) ?h8a1
          case hia1 => (simp only [List.getElem?_toArray, List.getElem?_cons_succ, List.getElem?_cons_zero]; rfl)
          case h3a1 => kernel_rfl
          case h4a1 => kernel_rfl
          case h6a1 => (refine Or.inl ⟨by rfl, ?_⟩; intro w hSw; (try dsimp only at hSw); (go_simp <;> with_reducible rfl))
          case h5a1 => exact fun _ _ _ h => h
          try simp only [Act.put, List.setIfInBounds_toArray, List.set_cons_zero, List.set_cons_succ]
          refine wpAnyH_take (i := 2) (oi := ?ooa2) (v := ?vva2) ?hia2 (by kernel_rfl) ?h3a2 ?h4a2 ?h5a2 ?h6a2 (by assumption) ?h8a2
          case hia2 => (simp only [List.getElem?_toArray, List.getElem?_cons_succ, List.getElem?_cons_zero]; rfl)
          case h3a2 => kernel_rfl
          case h4a2 => kernel_rfl
          case h6a2 => (refine Or.inl ⟨by rfl, ?_⟩; intro w hSw; (try dsimp only at hSw); (go_simp <;> with_reducible rfl))
          case h5a2 => exact fun _ _ _ h => h
          try simp only [Act.put, List.setIfInBounds_toArray, List.set_cons_zero, List.set_cons_succ]
          refine wpAnyH_take (i := 3) (oi := ?ooa3) (v := ?vva3) ?hia3 (by kernel_rfl) ?h3a3 ?h4a3 ?h5a3 ?h6a3 (by assumption) ?h8a3
          case hia3 => (simp only [List.getElem?_toArray, List.getElem?_cons_succ, List.getElem?_cons_zero]; rfl)
          case h3a3 => kernel_rfl
          case h4a3 => kernel_rfl
          case h6a3 => (refine Or.inl ⟨by rfl, ?_⟩; intro w hSw; (try dsimp only at hSw); (go_simp <;> with_reducible rfl))
          case h5a3 => exact fun _ _ _ h => h
          try simp only [Act.put, List.setIfInBounds_toArray, List.set_cons_zero, List.set_cons_succ]
          refine wpAnyH_take (i := 4) (oi := ?ooa4) (v := ?vva4) ?hia4 (by kernel_rfl) ?h3a4 ?h4a4 ?h5a4 ?h6a4 (by assumption) ?h8a4
          case hia4 => (simp only [List.getElem?_toArray, List.getElem?_cons_succ, List.getElem?_cons_zero]; rfl)
          case h3a4 => kernel_rfl
          case h4a4 => kernel_rfl
          case h6a4 => (refine Or.inl ⟨by rfl, ?_⟩; intro w hSw; (try dsimp only at hSw); (go_simp <;> with_reducible rfl))
          case h5a4 => exact fun _ _ _ h => h
          try simp only [Act.put, List.setIfInBounds_toArray, List.set_cons_zero, List.set_cons_succ]
          refine wpAnyH_take (i := 5) (oi := ?ooa5) (v := ?vva5) ?hia5 (by kernel_rfl) ?h3a5 ?h4a5 ?h5a5 ?h6a5 (by assumption) ?h8a5
          case hia5 => (simp only [List.getElem?_toArray, List.getElem?_cons_succ, List.getElem?_cons_zero]; rfl)
          case h3a5 => kernel_rfl
          case h4a5 => kernel_rfl
          case h6a5 => (refine Or.inl ⟨by rfl, ?_⟩; intro w hSw; (try dsimp only at hSw); (go_simp <;> with_reducible rfl))
          case h5a5 => exact fun _ _ _ h => h
          try simp only [Act.put, List.setIfInBounds_toArray, List.set_cons_zero, List.set_cons_succ]
          refine wpAnyH_take (i := 6) (oi := ?ooa6) (v := ?vva6) ?hia6 (by kernel_rfl) ?h3a6 ?h4a6 ?h5a6 ?h6a6 (by assumption) ?h8a6
          case hia6 => (simp only [List.getElem?_toArray, List.getElem?_cons_succ, List.getElem?_cons_zero]; rfl)
          case h3a6 => kernel_rfl
          case h4a6 => kernel_rfl
          case h6a6 => (refine Or.inl ⟨by rfl, ?_⟩; intro w hSw; (try dsimp only at hSw); (go_simp <;> with_reducible rfl))
          case h5a6 => exact fun _ _ _ h => h
          try simp only [Act.put, List.setIfInBounds_toArray, List.set_cons_zero, List.set_cons_succ]
          refine wpAnyH_take (i := 7) (oi := ?ooa7) (v := ?vva7) ?hia7 (by kernel_rfl) ?h3a7 ?h4a7 ?h5a7 ?h6a7 (by assumption) ?h8a7
          case hia7 => (simp only [List.getElem?_toArray, List.getElem?_cons_succ, List.getElem?_cons_zero]; rfl)
          case h3a7 => kernel_rfl
          case h4a7 => kernel_rfl
          case h6a7 => (refine Or.inl ⟨by rfl, ?_⟩; intro w hSw; (try dsimp only at hSw); (go_simp <;> with_reducible rfl))
          case h5a7 => exact fun _ _ _ h => h
          try simp only [Act.put, List.setIfInBounds_toArray, List.set_cons_zero, List.set_cons_succ]
          refine wpAnyH_take (i := 8) (oi := ?ooa8) (v := ?vva8) ?hia8 (by kernel_rfl) ?h3a8 ?h4a8 ?h5a8 ?h6a8 (by assumption) ?h8a8
          case hia8 => (simp only [List.getElem?_toArray, List.getElem?_cons_succ, List.getElem?_cons_zero]; rfl)
          case h3a8 => kernel_rfl
          case h4a8 => kernel_rfl
          case h6a8 => (refine Or.inl ⟨by rfl, ?_⟩; intro w hSw; (try dsimp only at hSw); (go_simp <;> with_reducible rfl))
          case h5a8 => exact fun _ _ _ h => h
          try simp only [Act.put, List.setIfInBounds_toArray, List.set_cons_zero, List.set_cons_succ]
          refine wpAnyH_take (i := 9) (oi := ?ooa9) (v := ?vva9) ?hia9 (by kernel_rfl) ?h3a9 ?h4a9 ?h5a9 ?h6a9 (by assumption) ?h8a9
          case hia9 => (simp only [List.getElem?_toArray, List.getElem?_cons_succ, List.getElem?_cons_zero]; rfl)
          case h3a9 => kernel_rfl
          case h4a9 => kernel_rfl
          case h6a9 => (refine Or.inl ⟨by rfl, ?_⟩; intro w hSw; (try dsimp only at hSw); (go_simp <;> with_reducible rfl))
          case h5a9 => exact fun _ _ _ h => h
          try simp only [Act.put, List.setIfInBounds_toArray, List.set_cons_zero, List.set_cons_succ]
          refine wpAnyH_take (i := 10) (oi := ?ooa10) (v := ?vva10) ?hia10 (by kernel_rfl) ?h3a10 ?h4a10 ?h5a10 ?h6a10 (by assumption) ?h8a10
          case hia10 => (simp only [List.getElem?_toArray, List.getElem?_cons_succ, List.getElem?_cons_zero]; rfl)
          case h3a10 => kernel_rfl
          case h4a10 => kernel_rfl
          case h6a10 => (refine Or.inl ⟨by rfl, ?_⟩; intro w hSw; (try dsimp only at hSw); (go_simp <;> with_reducible rfl))
          case h5a10 => exact fun _ _ _ h => h
          try simp only [Act.put, List.setIfInBounds_toArray, List.set_cons_zero, List.set_cons_succ]
          refine wpAnyH_ready (rs := [11]) (by kernel_rfl) (by simp) (AllReadyH.cons (o := ?ooa11) ?hia11 (fun K hK => ?hka11) AllReadyH.nil)
          rotate_left
          case hia11 => (simp only [List.getElem?_toArray, List.getElem?_cons_succ, List.getElem?_cons_zero]; rfl)
          (rw [if_pos (by rfl)]; go_simp; refine hK.out _ _ (kp2g (g_of ((Below.refl _ _).alloc (Nat.le_refl _) _) _) n0 n5 hHeld) (fun hHeld => ?_); clear hK K)
          try simp only [Act.put, List.setIfInBounds_toArray, List.set_cons_zero, List.set_cons_succ]
          refine wpAnyH_ready (rs := [12]) (by kernel_rfl) (by simp) (AllReadyH.cons (o := ?ooa12) ?hia12 (fun K hK => ?hka12) AllReadyH.nil)
          rotate_left
          case hia12 => (simp only [List.getElem?_toArray, List.getElem?_cons_succ, List.getElem?_cons_zero]; rfl)
          (rw [if_pos (by rfl)]; refine wp_append_any _ (.tmp 41) (.tmp 52) _ rfl w1.heap.size 52 i0 _ 2 16 Try.underlying24 hi0 hz0 hz1 hz2 rfl (by decide) _ _ _ rfl (World.ownsRow.alloc (own_drewT HO.out) _) (wr.heap.size + 1) (some ⟨wr.heap.size, 0, none⟩) 1 1 [.int .i64 x0, .int .i64 y] rfl ⟨by simp, fun _ => ⟨⟨wr.heap.size, 0, none⟩, rfl, Nat.lt_succ_self _, new_cells wr.drew _ _⟩⟩ (valsTn_one [(x0, y)]) (by unfold maxLen; omega) (by omega) (by simp <;> omega) ?_; intro v3 w5 hown3 hgrow3 hat3; refine hK.out _ _ (kp2g hgrow3 n0 n5 hHeld) (fun hHeld => ?_); clear hK K)
          try simp only [Act.put, List.setIfInBounds_toArray, List.set_cons_zero, List.set_cons_succ]
          refine wpAnyH_take (i := 13) (oi := ?ooa13) (v := ?vva13) ?hia13 (by kernel_rfl) ?h3a13 ?h4a13 ?h5a13 ?h6a13 (by assumption) ?h8a13
          case hia13 => (simp only [List.getElem?_toArray, List.getElem?_cons_succ, List.getElem?_cons_zero]; rfl)
          case h3a13 => kernel_rfl
          case h4a13 => kernel_rfl
          case h6a13 => (refine Or.inl ⟨by rfl, ?_⟩; intro w hSw; (try dsimp only at hSw); (go_simp <;> with_reducible rfl))
          case h5a13 => exact fun _ _ _ h => h
          try simp only [Act.put, List.setIfInBounds_toArray, List.set_cons_zero, List.set_cons_succ]
          refine wpAnyH_done (by kernel_rfl) ?_ _
          have HF : Hid (w5.ownsRow w1.heap.size 52 2 v3 (tfTo hs gs (k + 1)).length (valsTn (tfTo hs gs (k + 1))) ∧ (∀ i, i < hs.length → w5.cell? ⟨g2, o2 + i, none⟩ = some (.int .i64 (gs.getD i 0))) ∧ Below w.heap.size w w5 ∧ v3.ownBlock ≠ some g2) := by
            have hB := HRR.out.2.2.1
            have hsz := hB.size
            refine ⟨by rw [HN2.out, List.length_append, valsTn_append]; exact hown3, fun i hi => (World.cell?_of_block (hHeld.2.block _ (World.block_lt_of_cell? wr _ (HRR.out.2.1 i hi)) (fun e => n5 e.symm))).trans (HRR.out.2.1 i hi), hB.grown hHeld.2 hsz (fun q hq => by have := (HO.out.lt q hq).1; omega), ?_⟩
            rcases hat3 with e | e
            · rw [e]; exact n5
            · rw [e]; intro c; have c := Option.some.inj c; have hszr2 : g2 < wr.heap.size := hszr; simp at c; omega
          have hs5 : w1.heap.size < w5.heap.size := by have := hHeld.2.size; omega
          clear HO HRR hown3 hgrow3 hat3 hHeld n0 n5 c0 c1
          go_wp2_with fail
          go_roundw
          case rel => exact ⟨k + 1, by omega, by go_num, HF.out, hs5⟩
          case measure => simp [intOf]; omega
        · have e3 : decide (0 < y) = false := decide_eq_false hy0
          have HN := Lib.hid (nn hy0)
          clear ny nn hy0
          have HF : Hid (wr.ownsRow w1.heap.size 52 2 u7 (tfTo hs gs (k + 1)).length (valsTn (tfTo hs gs (k + 1))) ∧ (∀ i, i < hs.length → wr.cell? ⟨g2, o2 + i, none⟩ = some (.int .i64 (gs.getD i 0))) ∧ Below w.heap.size w wr ∧ u7.ownBlock ≠ some g2) := by show _ ∧ _; rw [HN.out]; exact HR.out
          clear HR HN
          go_wp2_with fail
          go_roundw
          case rel => exact ⟨k + 1, by omega, by go_num, HF.out, hsw⟩
          case measure => simp [intOf]; omega
      · obtain rfl : k = hs.length := by omega
        rcases Flat.own (zs := flatTn (tfTo hs gs hs.length)) HR.out.1 with ⟨_, hz⟩ | ⟨g, cp, rfl, lg, F, hcp⟩
        · have := HS.out; omega
        have HF := Lib.hid (And.intro F HR.out.2.2.1)
        clear HR F
        go_wp2_with fail
        go_returns
        exact tt_yes rfl rfl (by omega) HF.out.1 hcp HF.out.2
end Go.Proofs.Ytonoallohalhgaa
