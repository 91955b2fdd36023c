/- impl.TurnsFor. Condition: at most 1048576 holdings. -/
import Derived.Test.YtonoallohalhgaaTfor
import Derived.Test.YtonoallohalhgaaRest
import Derived.BigRegion
import Derived.Maps.AppendAt
namespace Go.Proofs.Ytonoallohalhgaa
open Go.RowKit
set_option linter.unusedSimpArgs false
set_option linter.unusedVariables false
set_option maxRecDepth 100000 in
set_option maxHeartbeats 4000000 in
theorem iTurnsFor (a : Option Addr) (cap : Nat) (hs : List Hd) (n : Int) (w : World) (h : IsHs w a hs) (hn : hs.length ≤ 1048576) :
    Calls Try.prog 8 #[.slice a hs.length cap, .int .i64 n] w (OutTT w (tfB hs n) (tfL hs n)) := by
  by_cases hcd : cdR hs = -1
  · have CU := iUnits_no a cap hs w h hn hcd
    rw [tf_no (.inl hcd)]
    have CW := fun W => iVW none 0 [] W (.inl rfl) (by simp)
    rw [show vwB [] = false from rfl] at CW
    clear h hcd
    go_enter Try.func8, Try.ntmps8
    go_wp2_with fail
    refine CU.mono ?_
    rintro e w1 ⟨rfl, C⟩
    by_cases h1 : n < 1
    · go_wp2_with fail
      go_returns
      exact tt_no rfl C
    · by_cases h2 : 336 < n
      · go_wp2_with fail
        go_returns
        exact tt_no rfl C
      · go_wp2_with fail
        refine (CW _).mono ?_
        rintro e w' ⟨rfl, rfl⟩
        go_wp2_with fail
        go_returns
        exact tt_no rfl C
  have CU := iUnits a cap hs w h hn hcd
  have hul := un_len hs
  by_cases hr : n < 1 ∨ 336 < n
  · rw [tf_no (.inr (.inl hr))]
    clear h hcd
    go_enter Try.func8, Try.ntmps8
    go_wp2_with fail
    refine CU.mono ?_
    rintro e w1 ⟨g1, rfl, lg1, R1, C⟩
    clear R1 hul
    rcases hr with hr | hr
    · go_wp2_with fail
      go_returns
      exact tt_no rfl C
    · have h1 : ¬ n < 1 := by omega
      go_wp2_with fail
      go_returns
      exact tt_no rfl C
  have n1 : 1 ≤ n := by omega
  have n2 : n ≤ 336 := by omega
  have e1 : decide (n < 1) = false := decide_eq_false (by omega)
  have e2 : decide (336 < n) = false := decide_eq_false (by omega)
  have CW := Lib.hid (fun (g : Nat) W (hW : Row W g (unR hs)) => (by have := iVW (some ⟨g, 0, none⟩) hs.length (unR hs) W (row_ints hW) (by rw [hul]; exact hn); rw [hul] at this; exact this : Calls Try.prog 26 #[.slice (some ⟨g, 0, none⟩) hs.length hs.length] W fun e w' => e = .returned (.bool (vwB (unR hs))) ∧ W = w'))
  clear hr
  cases hv : vwB (unR hs) with
  | false =>
    rw [tf_no (.inr (.inr hv))]
    rw [hv] at CW
    clear h hcd hv hul
    go_enter Try.func8, Try.ntmps8
    go_wp2_with fail
    refine CU.mono ?_
    rintro e w1 ⟨g1, rfl, lg1, R1, C⟩
    go_wp2_with fail
    refine (CW.out _ _ R1).mono ?_
    rintro e w' ⟨rfl, rfl⟩
    clear R1
    go_wp2_with fail
    go_returns
    exact tt_no rfl C
  | true =>
    have hcs := tf_cs n1 n2 hv
    rw [tf_yes hcd n1 n2 hv]
    rw [hv] at CW
    have HS := Lib.hid (tf_some (hs := hs) n1 hcs)
    have CR := Lib.hid (fun (g : Nat) W (hW : Row W g (unR hs)) => (by have := irest n (some ⟨g, 0, none⟩) hs.length (unR hs) W (row_ints hW) (by rw [hul]; exact hn) hcs; rw [hul] at this; exact this : Calls Try.prog 27 #[.int .i64 n, .slice (some ⟨g, 0, none⟩) hs.length hs.length] W (Divd hs.length (sr n (unR hs)) W)))
    have hgl : (sr n (unR hs)).length = hs.length := by rw [sr_len, hul]
    have HGB := Lib.hid (fun i (hi : i < hs.length) => sr_bd hcs (i := i) (by rw [hul]; exact hi))
    have hL : tfL hs n = tfTo hs (sr n (unR hs)) hs.length := rfl
    rw [hL] at HS ⊢
    have HTL := Lib.hid (fun k => tfTo_len hs (sr n (unR hs)) k)
    obtain ⟨i0, hi0, hz0, hz1, hz2⟩ := info_parts infoTn
    rcases h with rfl | ⟨g0, o, rfl, hcl⟩
    · exact absurd HS.out (by show ¬ 0 < 0; omega)
    have HC := Lib.hid hcl
    clear hv hcd hcl hcs hL
    have HUL := Lib.hid hul
    clear hul
    go_enter Try.func8, Try.ntmps8
    go_wp2_with fail
    refine CU.mono ?_
    rintro e w1 ⟨g1, rfl, lg1, R1, C⟩
    go_wp2_with fail
    refine (CW.out _ _ R1).mono ?_
    rintro e w' ⟨rfl, rfl⟩
    have R1a := Lib.hid R1
    have hO : (w1.alloc (.cells #[] 52)).ownsRow w1.heap.size 52 2 (.slice (some ⟨w1.heap.size, 0, none⟩) 0 0) 0 [] := ⟨by simp, .inr ⟨w1.heap.size, 0, #[], rfl, Nat.le_refl _, Go.Deep.blk_alloc_new _ _, Nat.le_refl _, by unfold maxLen; omega, rfl, rfl⟩⟩
    have HOw := Lib.hid hO
    have hS := C.size
    have Ca := (Below.refl w1.heap.size w1).alloc (Nat.le_refl _) (.cells #[] 52)
    have CRa := CR.out g1 _ (World.rowIs.of_block R1 (Ca.block g1 (World.rowIs.lt R1)))
    have HB := Lib.hid (C.alloc C.size (.cells #[] 52))
    have hszA : w1.heap.size < (w1.alloc (.cells #[] 52)).heap.size := by simp
    clear C hO R1 R1a Ca CR CW CU HUL
    generalize unR hs = us at *
    generalize sr n us = gs at *
    go_wp2_with fail
    refine CRa.mono ?_
    rintro e w2 ⟨g2, rfl, lg2, R2, C2⟩
    have HR2 : Hid (Row w2 g2 gs ∧ w2.ownsRow w1.heap.size 52 2 (.slice (some ⟨w1.heap.size, 0, none⟩) 0 0) 0 [] ∧ Below w.heap.size w w2 ∧ w1.heap.size < g2) := ⟨R2, own_nextT HOw.out C2, bel_tr HB.out C2, by omega⟩
    have hlt2 : g2 < w2.heap.size := World.rowIs.lt R2
    clear CRa R2 C2 HOw HB
    go_wp2_with fail
    go_loopw [7, 28] (fun v i wr => ∃ k : Nat, k ≤ hs.length ∧ i = .int .i64 k ∧ Hid (wr.ownsRow w1.heap.size 52 2 v (tfTo hs gs k).length (valsTn (tfTo hs gs k)) ∧ Row wr g2 gs ∧ Below w.heap.size w wr ∧ v.ownBlock ≠ some g2)) (fun _ i _ => hs.length - (intOf i).toNat)
    case atStart => exact ⟨0, Nat.zero_le _, rfl, HR2.out.2.1, HR2.out.1, HR2.out.2.2.1, fun c => by have := HR2.out.2.2.2; have c : w1.heap.size = g2 := Option.some.inj c; omega⟩
    case round =>
      clear HR2
      obtain ⟨k, hk, rfl, HR⟩ := hrel
      by_cases hlt : k < hs.length
      · have c0 := hs_at HC.out HR.out.2.2.1 hlt
        have c1 := HR.out.2.1.cell (i := k) (by omega)
        have hll := HTL.out k
        have hy := HGB.out k hlt
        have ny := fun h => tfTo_yes (hs := hs) (gs := gs) (k := k) h
        have nn := fun h => tfTo_no (hs := hs) (gs := gs) (k := k) h
        have hszr := World.rowIs.lt HR.out.2.1
        generalize (hs.getD k hd0).1 = x0 at c0 ny
        generalize gs.getD k 0 = y at c1 hy ny nn
        have b0 : (0 : Int) ≤ (k : Int) := by omega
        have b1 : (k : Int) < (hs.length : Int) := by omega
        by_cases hy0 : 0 < y
        · have e3 : decide (0 < y) = true := decide_eq_true hy0
          have HN := Lib.hid (ny hy0)
          clear ny nn hy hy0
          have HRR := HR
          obtain ⟨out, hout⟩ : ∃ out, tfTo hs gs k = out := ⟨_, rfl⟩
          have HN2 : Hid (tfTo hs gs (k + 1) = out ++ [(x0, y)]) := by show _ = _; rw [HN.out, hout]
          have HO : Hid (wr.ownsRow w1.heap.size 52 2 u7 out.length (valsTn out)) := by show World.ownsRow _ _ _ _ _ _ _; rw [← hout]; exact HR.out.1
          rw [hout] at hll
          clear HN hout HR
          go_wp2_with (first | (at_builtin; refine wpList_append_any _ rfl (.tmp 35) (.tmp 43) _ rfl w1.heap.size 52 i0 _ 2 16 Try.underlying24 hi0 hz0 hz1 hz2 rfl (by omega) _ _ _ rfl (HO.out.alloc _) (wr.heap.size + 1) (some ⟨wr.heap.size, 0, none⟩) 1 1 [.int .i64 x0, .int .i64 y] rfl ⟨by simp, fun _ => ⟨⟨wr.heap.size, 0, none⟩, rfl, Nat.lt_succ_self _, new_cells wr _ _⟩⟩ (valsTn_one [(x0, y)]) (by unfold maxLen; omega) (by omega) (by simp <;> omega) ?_; intro v3 w5 hown3 hgrow3 hat3))
          have HF : Hid (w5.ownsRow w1.heap.size 52 2 v3 (tfTo hs gs (k + 1)).length (valsTn (tfTo hs gs (k + 1))) ∧ Row w5 g2 gs ∧ Below w.heap.size w w5 ∧ v3.ownBlock ≠ some g2) := by
            have hB := HRR.out.2.2.1
            have hsz := hB.size
            refine ⟨by rw [HN2.out, List.length_append, valsTn_append]; exact hown3, World.rowIs.of_block (row_keep HRR.out.2.1 ((Below.refl _ _).alloc (Nat.le_refl _) _)) (hgrow3.block g2 (by simp; omega) (fun e => HRR.out.2.2.2 e.symm)), (hB.alloc hsz _).grown hgrow3 (by simp; omega) (fun q hq => by have := (HO.out.lt q hq).1; omega), ?_⟩
            rcases hat3 with e | e
            · rw [e]; exact HRR.out.2.2.2
            · rw [e]; intro c; have c := Option.some.inj c; simp at c; omega
          clear HO HRR hown3 hgrow3 hat3
          go_roundw
          case rel => exact ⟨k + 1, by omega, by go_num, HF.out⟩
          case measure => simp [intOf]; omega
        · have e3 : decide (0 < y) = false := decide_eq_false hy0
          have HN := Lib.hid (nn hy0)
          clear ny nn hy hy0
          have HF : Hid (wr.ownsRow w1.heap.size 52 2 u7 (tfTo hs gs (k + 1)).length (valsTn (tfTo hs gs (k + 1))) ∧ Row wr g2 gs ∧ Below w.heap.size w wr ∧ u7.ownBlock ≠ some g2) := by show _ ∧ _; rw [HN.out]; exact HR.out
          clear HR HN
          go_wp2_with fail
          go_roundw
          case rel => exact ⟨k + 1, by omega, by go_num, HF.out⟩
          case measure => simp [intOf]; omega
      · obtain rfl : k = hs.length := by omega
        rcases Flat.own (zs := flatTn (tfTo hs gs hs.length)) HR.out.1 with ⟨_, hz⟩ | ⟨g, cp, rfl, lg, F, hcp⟩
        · have := HS.out; omega
        have HF := Lib.hid (And.intro F HR.out.2.2.1)
        clear HR F
        go_wp2_with fail
        go_returns
        exact tt_yes rfl rfl (by omega) HF.out.1 hcp HF.out.2
end Go.Proofs.Ytonoallohalhgaa
