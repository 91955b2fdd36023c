/- Contracts and facts of functions of this program, in build order. Conditions: those stated in each. -/
import Derived.Test.YthagafkjlecagabGreatG4
import Derived.Test.YthagafkjlecagabGreatG2
import Derived.Test.YthagafkjlecagabGreatG1
import Derived.Test.YthagafkjlecagabGreatHoldW
import Derived.Test.YthagafkjlecagabGreatG3
import Derived.Test.YthagafkjlecagabGreatG0
import Derived.BigRegion
import Derived.Maps.AppendAt
import Derived.Deep.RegionHeld3
import Derived.Deep.RegionWith
import Derived.Deep.QuietTactic
import Derived.BigQuiet
import Derived.RegionTactic
set_option maxRecDepth 100000
set_option maxHeartbeats 16000000
namespace Go.Proofs.YthagafkjlecagabGreat
open Go.RowKit
set_option linter.unusedSimpArgs false
set_option linter.unusedVariables false
theorem iTurnsFor (a : Option Addr) (cap : Nat) (hs : List Hd) (n : Int) (w : World) (h : IsHs w a hs) (hn : hs.length ≤ 1048576) :
    Calls Tryz.prog 75 #[.slice a hs.length cap, .int .i64 n] w (OutTT w (tfB hs n) (tfL hs n)) := by
  by_cases hcd : cdR hs = -1
  · have CU := iUnits_no a cap hs w h hn hcd
    rw [tf_no (.inl hcd)]
    have CW := fun W => iVW none 0 [] W (.inl rfl) (by simp)
    rw [show vwB [] = false from rfl] at CW; clear h hcd; go_enter Tryz.func75, Tryz.ntmps75; go_wp2_with fail; refine CU.mono ?_; rintro e w1 ⟨rfl, C⟩
    by_cases h1 : n < 1
    · go_wp2_with fail
      go_returns
      exact tt_no rfl C
    · by_cases h2 : 336 < n
      · go_wp2_with fail
        go_returns
        exact tt_no rfl C
      · go_wp2_with fail
        refine (CW _).mono ?_; rintro e w' ⟨rfl, rfl⟩; go_wp2_with fail
        go_returns
        exact tt_no rfl C
  have CU := iUnits a cap hs w h hn hcd; have hul := un_len hs
  by_cases hr : n < 1 ∨ 336 < n
  · rw [tf_no (.inr (.inl hr))]
    clear h hcd; go_enter Tryz.func75, Tryz.ntmps75; go_wp2_with fail; refine CU.mono ?_; rintro e w1 ⟨g1, rfl, lg1, R1, C⟩; clear R1 hul
    rcases hr with hr | hr
    · go_wp2_with fail
      go_returns
      exact tt_no rfl C
    · have h1 : ¬ n < 1 := by omega
      go_wp2_with fail
      go_returns
      exact tt_no rfl C
  have n1 : 1 ≤ n := by omega
  have n2 : n ≤ 336 := by omega
  have e1 : decide (n < 1) = false := decide_eq_false (by omega); have e2 : decide (336 < n) = false := decide_eq_false (by omega); have CW := Lib.hid (fun (g : Nat) W (hW : Row W g (unR hs)) => (by have := iVW (some ⟨g, 0, none⟩) hs.length (unR hs) W (row_ints hW) (by rw [hul]; exact hn); rw [hul] at this; exact this : Calls Tryz.prog 108 #[.slice (some ⟨g, 0, none⟩) hs.length hs.length] W fun e w' => e = .returned (.bool (vwB (unR hs))) ∧ W = w')); clear hr
  cases hv : vwB (unR hs) with
  | false =>
    rw [tf_no (.inr (.inr hv))]; rw [hv] at CW; clear h hcd hv hul; go_enter Tryz.func75, Tryz.ntmps75; go_wp2_with fail; refine CU.mono ?_; rintro e w1 ⟨g1, rfl, lg1, R1, C⟩; go_wp2_with fail; refine (CW.out _ _ R1).mono ?_; rintro e w' ⟨rfl, rfl⟩; clear R1; go_wp2_with fail
    go_returns
    exact tt_no rfl C
  | true =>
    have hcs := tf_cs n1 n2 hv; rw [tf_yes hcd n1 n2 hv]; rw [hv] at CW; have HS := Lib.hid (tf_some (hs := hs) n1 hcs); have CR := Lib.hid (fun (g : Nat) W (hW : Row W g (unR hs)) => (by have := irest n (some ⟨g, 0, none⟩) hs.length (unR hs) W (row_ints hW) (by rw [hul]; exact hn) hcs; rw [hul] at this; exact this : Calls Tryz.prog 109 #[.int .i64 n, .slice (some ⟨g, 0, none⟩) hs.length hs.length] W (Divd hs.length (sr n (unR hs)) W)))
    have hgl : (sr n (unR hs)).length = hs.length := by rw [sr_len, hul]
    have HGB := Lib.hid (fun i (hi : i < hs.length) => sr_bd hcs (i := i) (by rw [hul]; exact hi)); have hL : tfL hs n = tfTo hs (sr n (unR hs)) hs.length := rfl; rw [hL] at HS ⊢; have HTL := Lib.hid (fun k => tfTo_len hs (sr n (unR hs)) k); obtain ⟨i0, hi0, hz0, hz1, hz2⟩ := info_parts infoTn
    rcases h with rfl | ⟨g0, o, rfl, hcl⟩
    · exact absurd HS.out (by show ¬ 0 < 0; omega)
    have HC := Lib.hid hcl; clear hv hcd hcl hcs hL; have HUL := Lib.hid hul; clear hul; go_enter Tryz.func75, Tryz.ntmps75; go_wp2_with fail; refine CU.mono ?_; rintro e w1 ⟨g1, rfl, lg1, R1, C⟩; go_wp2_with fail; refine (CW.out _ _ R1).mono ?_; rintro e w' ⟨rfl, rfl⟩; have R1a := Lib.hid R1
    have hO : (w1.alloc (.cells #[] 108)).ownsRow w1.heap.size 108 2 (.slice (some ⟨w1.heap.size, 0, none⟩) 0 0) 0 [] := ⟨by simp, .inr ⟨w1.heap.size, 0, #[], rfl, Nat.le_refl _, Go.Deep.blk_alloc_new _ _, Nat.le_refl _, by unfold maxLen; omega, rfl, rfl⟩⟩
    have HOw := Lib.hid hO; have hS := C.size; have Ca := (Below.refl w1.heap.size w1).alloc (Nat.le_refl _) (.cells #[] 108); have CRa := CR.out g1 _ (World.rowIs.of_block R1 (Ca.block g1 (World.rowIs.lt R1))); have HB := Lib.hid (C.alloc C.size (.cells #[] 108))
    have hszA : w1.heap.size < (w1.alloc (.cells #[] 108)).heap.size := by simp
    clear C hO R1 R1a Ca CR CW CU HUL; generalize unR hs = us at *; generalize sr n us = gs at *; go_wp2_with fail; refine CRa.mono ?_; rintro e w2 ⟨g2, rfl, lg2, R2, C2⟩
    have HR2 : Hid (Row w2 g2 gs ∧ w2.ownsRow w1.heap.size 108 2 (.slice (some ⟨w1.heap.size, 0, none⟩) 0 0) 0 [] ∧ Below w.heap.size w w2 ∧ w1.heap.size < g2) := ⟨R2, own_nextT HOw.out C2, bel_tr HB.out C2, by omega⟩
    have hlt2 : g2 < w2.heap.size := World.rowIs.lt R2; clear CRa R2 C2 HOw HB; go_wp2_with fail
    go_loopw [7, 28] (fun v i wr => ∃ k : Nat, k ≤ hs.length ∧ i = .int .i64 k ∧ Hid (wr.ownsRow w1.heap.size 108 2 v (tfTo hs gs k).length (valsTn (tfTo hs gs k)) ∧ Row wr g2 gs ∧ Below w.heap.size w wr ∧ v.ownBlock ≠ some g2)) (fun _ i _ => hs.length - (intOf i).toNat)
    case atStart => exact ⟨0, Nat.zero_le _, rfl, HR2.out.2.1, HR2.out.1, HR2.out.2.2.1, fun c => by have := HR2.out.2.2.2; have c : w1.heap.size = g2 := Option.some.inj c; omega⟩
    case round =>
      clear HR2; obtain ⟨k, hk, rfl, HR⟩ := hrel
      by_cases hlt : k < hs.length
      · have c0 := hs_at HC.out HR.out.2.2.1 hlt
        have c1 := HR.out.2.1.cell (i := k) (by omega); have hll := HTL.out k; have hy := HGB.out k hlt
        have ny := fun h => tfTo_yes (hs := hs) (gs := gs) (k := k) h
        have nn := fun h => tfTo_no (hs := hs) (gs := gs) (k := k) h
        have hszr := World.rowIs.lt HR.out.2.1; generalize (hs.getD k hd0).1 = x0 at c0 ny; generalize gs.getD k 0 = y at c1 hy ny nn
        have b0 : (0 : Int) ≤ (k : Int) := by omega
        have b1 : (k : Int) < (hs.length : Int) := by omega
        by_cases hy0 : 0 < y
        · have e3 : decide (0 < y) = true := decide_eq_true hy0
          have HN := Lib.hid (ny hy0); clear ny nn hy hy0; have HRR := HR
          obtain ⟨out, hout⟩ : ∃ out, tfTo hs gs k = out := ⟨_, rfl⟩
          have HN2 : Hid (tfTo hs gs (k + 1) = out ++ [(x0, y)]) := by show _ = _; rw [HN.out, hout]
          have HO : Hid (wr.ownsRow w1.heap.size 108 2 u7 out.length (valsTn out)) := by show World.ownsRow _ _ _ _ _ _ _; rw [← hout]; exact HR.out.1
          rw [hout] at hll; clear HN hout HR
          go_wp2_with (first | (at_builtin; refine wpList_append_any _ rfl (.tmp 35) (.tmp 43) _ rfl w1.heap.size 108 i0 _ 2 16 Tryz.underlying40 hi0 hz0 hz1 hz2 rfl (by omega) _ _ _ rfl (HO.out.alloc _) (wr.heap.size + 1) (some ⟨wr.heap.size, 0, none⟩) 1 1 [.int .i64 x0, .int .i64 y] rfl ⟨by simp, fun _ => ⟨⟨wr.heap.size, 0, none⟩, rfl, Nat.lt_succ_self _, new_cells wr _ _⟩⟩ (valsTn_one [(x0, y)]) (by unfold maxLen; omega) (by omega) (by simp <;> omega) ?_; intro v3 w5 hown3 hgrow3 hat3))
          have HF : Hid (w5.ownsRow w1.heap.size 108 2 v3 (tfTo hs gs (k + 1)).length (valsTn (tfTo hs gs (k + 1))) ∧ Row w5 g2 gs ∧ Below w.heap.size w w5 ∧ v3.ownBlock ≠ some g2) := by
            have hB := HRR.out.2.2.1; have hsz := hB.size; refine ⟨by rw [HN2.out, List.length_append, valsTn_append]; exact hown3, World.rowIs.of_block (row_keep HRR.out.2.1 ((Below.refl _ _).alloc (Nat.le_refl _) _)) (hgrow3.block g2 (by simp; omega) (fun e => HRR.out.2.2.2 e.symm)), (hB.alloc hsz _).grown hgrow3 (by simp; omega) (fun q hq => by have := (HO.out.lt q hq).1; omega), ?_⟩
            rcases hat3 with e | e
            · rw [e]; exact HRR.out.2.2.2
            · rw [e]; intro c; have c := Option.some.inj c; simp at c; omega
          clear HO HRR hown3 hgrow3 hat3
          go_roundw
          case rel => exact ⟨k + 1, by omega, by go_num, HF.out⟩
          case measure => simp [intOf]; omega
        · have e3 : decide (0 < y) = false := decide_eq_false hy0
          have HN := Lib.hid (nn hy0); clear ny nn hy hy0
          have HF : Hid (wr.ownsRow w1.heap.size 108 2 u7 (tfTo hs gs (k + 1)).length (valsTn (tfTo hs gs (k + 1))) ∧ Row wr g2 gs ∧ Below w.heap.size w wr ∧ u7.ownBlock ≠ some g2) := by show _ ∧ _; rw [HN.out]; exact HR.out
          clear HR HN; go_wp2_with fail
          go_roundw
          case rel => exact ⟨k + 1, by omega, by go_num, HF.out⟩
          case measure => simp [intOf]; omega
      · obtain rfl : k = hs.length := by omega
        rcases Flat.own (zs := flatTn (tfTo hs gs hs.length)) HR.out.1 with ⟨_, hz⟩ | ⟨g, cp, rfl, lg, F, hcp⟩
        · have := HS.out; omega
        have HF := Lib.hid (And.intro F HR.out.2.2.1); clear HR F; go_wp2_with fail
        go_returns
        exact tt_yes rfl rfl (by omega) HF.out.1 hcp HF.out.2
theorem sareA (a : Option Addr) (cap : Nat) (ac : List Ac) (w : World) (h : IsAc w a ac) (hn : ac.length ≤ 1048576) :
    Calls Tryz.prog 51 #[.slice a ac.length cap] w fun e w' => e = .returned (.bool (acB ac)) ∧ Below w.heap.size w w' := by
  rcases h with rfl | ⟨g, o, rfl, hc⟩
  · go_enter Tryz.func51, Tryz.ntmps51
    go_wp2_with fail
    go_rounds 1
    go_ret; exact ⟨rfl, by go_grown⟩
  · have HC := Lib.hid hc
    clear hc; go_enter Tryz.func51, Tryz.ntmps51; go_wp2_with fail
    go_loopw [3] (fun i wr => ∃ k : Nat, k ≤ ac.length ∧ i = .int .i64 k ∧ Hid (∀ j, j < k → okAc ac j = true) ∧ Below w.heap.size w wr) (fun i _ => ac.length - (intOf i).toNat)
    case atStart => exact ⟨0, Nat.zero_le _, rfl, (fun j hj => absurd hj (Nat.not_lt_zero _)), by go_grown⟩
    case round =>
      obtain ⟨k, hk, rfl, HA, hB⟩ := hrel
      by_cases hlt : k < ac.length
      · obtain ⟨x0, x1⟩ := ac_at HC.out hB hlt
        have HN := Lib.hid (acB_no (ac := ac) hlt); have HY := Lib.hid (fun e => rng_more (f := okAc ac) HA.out ((okAc_last ac k).2 e))
        have hk0 : (0 : Int) ≤ (k : Int) := by omega
        have hk1 : (k : Int) < (ac.length : Int) := by omega
        have HB := Lib.hid hB
        by_cases hz : k = 0
        · have e0 : decide ((0 : Int) < (k : Int)) = false := decide_eq_false (by omega)
          have e0' : decide (0 < k) = false := decide_eq_false (by omega)
          have HL : Hid (lastA ac k = 0) := by subst hz; rfl
          rw [HL.out] at HN HY; generalize ac.getD k ac0 = q at x0 x1 HN HY; obtain ⟨x, y⟩ := q; dsimp only at x0 x1; clear hB hz; have K1 := Lib.hid (fun (W : World) (n : Nat) => Calls.quiet_of_same (w := W) (n := n) ((srange3 x 1 999 _).mono (fun _ _ h => ⟨h.1, h.2.symm⟩))); have K2 := Lib.hid (fun (W : World) (n : Nat) => Calls.quiet_of_same (w := W) (n := n) ((srange3 y 1 1000000 _).mono (fun _ _ h => ⟨h.1, h.2.symm⟩)))
          obtain ⟨b1, hb1⟩ : ∃ b, inB3 x 1 999 = b := ⟨_, rfl⟩
          obtain ⟨b2, hb2⟩ : ∃ b, inB3 y 1 1000000 = b := ⟨_, rfl⟩
          rw [hb1] at K1; rw [hb2] at K2; have H1 := Lib.hid hb1; have H2 := Lib.hid hb2; clear hb1 hb2
          cases b1 with
          | false =>
            have hv : Hid (acB ac = false) := HN.out (fun c => by dsimp only at c; have h3 := inB3_no H1.out; omega); go_wp2_with fail
            go_quiet (first | (go_at_call_of 52 (Value.int .i64 x); exact K1.out _ _))
            go_wp2_with fail; go_ret; exact ⟨ret_bool hv.out.symm, below_drewN HB.out _⟩
          | true =>
          cases b2 with
          | false =>
            have hv : Hid (acB ac = false) := HN.out (fun c => by dsimp only at c; have h3 := inB3_no H2.out; omega); go_wp2_with fail
            go_quiet (first | (go_at_call_of 52 (Value.int .i64 x); exact K1.out _ _) | (go_at_call_of 52 (Value.int .i64 y); exact K2.out _ _))
            go_wp2_with fail; go_ret; exact ⟨ret_bool hv.out.symm, below_drewN HB.out _⟩
          | true =>
          have HY2 := Lib.hid (HY.out (by dsimp only; have h3 := inB3_yes H1.out; have h4 := inB3_yes H2.out; omega)); clear HY HN; go_wp2_with fail
          go_quiet (first | (go_at_call_of 52 (Value.int .i64 x); exact K1.out _ _) | (go_at_call_of 52 (Value.int .i64 y); exact K2.out _ _))
          go_wp2_with fail
          go_roundw
          case rel => exact ⟨k + 1, by omega, by go_num, HY2.out, below_drewN HB.out _⟩
          case measure => simp [intOf]; omega
        · obtain ⟨m, hm⟩ : ∃ m, k = m + 1 := ⟨k - 1, by omega⟩
          have e0 : decide ((0 : Int) < (k : Int)) = true := decide_eq_true (by omega); have e0' : decide (0 < k) = true := decide_eq_true (by omega); obtain ⟨y0, y1⟩ := ac_at HC.out hB (k := m) (by omega)
          have hw : IntKind.i64.wrap ((k : Int) - 1) = (m : Int) := by rw [IntKind.wrap_i64]; omega
          have hm0 : (0 : Int) ≤ (m : Int) := by omega
          have hm1 : (m : Int) < (ac.length : Int) := by omega
          have HL : Hid (lastA ac k = (ac.getD m ac0).1) := by subst hm; rfl
          rw [HL.out] at HN HY; generalize ac.getD k ac0 = q at x0 x1 HN HY; generalize (ac.getD m ac0).1 = l at y0 HN HY; obtain ⟨x, y⟩ := q; dsimp only at x0 x1; clear hB y1 hz hm HL; have K1 := Lib.hid (fun (W : World) (n : Nat) => Calls.quiet_of_same (w := W) (n := n) ((srange3 x 1 999 _).mono (fun _ _ h => ⟨h.1, h.2.symm⟩))); have K2 := Lib.hid (fun (W : World) (n : Nat) => Calls.quiet_of_same (w := W) (n := n) ((srange3 y 1 1000000 _).mono (fun _ _ h => ⟨h.1, h.2.symm⟩)))
          obtain ⟨b1, hb1⟩ : ∃ b, inB3 x 1 999 = b := ⟨_, rfl⟩
          obtain ⟨b2, hb2⟩ : ∃ b, inB3 y 1 1000000 = b := ⟨_, rfl⟩
          rw [hb1] at K1; rw [hb2] at K2; have H1 := Lib.hid hb1; have H2 := Lib.hid hb2; clear hb1 hb2
          cases b1 with
          | false =>
            have hv : Hid (acB ac = false) := HN.out (fun c => by dsimp only at c; have h3 := inB3_no H1.out; omega); go_wp2_with fail
            go_quiet (first | (go_at_call_of 52 (Value.int .i64 x); exact K1.out _ _))
            go_wp2_with fail; go_ret; exact ⟨ret_bool hv.out.symm, below_drewN HB.out _⟩
          | true =>
          cases b2 with
          | false =>
            have hv : Hid (acB ac = false) := HN.out (fun c => by dsimp only at c; have h3 := inB3_no H2.out; omega); go_wp2_with fail
            go_quiet (first | (go_at_call_of 52 (Value.int .i64 x); exact K1.out _ _) | (go_at_call_of 52 (Value.int .i64 y); exact K2.out _ _))
            go_wp2_with fail; go_ret; exact ⟨ret_bool hv.out.symm, below_drewN HB.out _⟩
          | true =>
          by_cases h5 : x ≤ l
          · have e5 : decide (x ≤ l) = true := decide_eq_true h5
            have hv : Hid (acB ac = false) := HN.out (fun c => by dsimp only at c; omega); go_wp2_with fail
            go_quiet (first | (go_at_call_of 52 (Value.int .i64 x); exact K1.out _ _) | (go_at_call_of 52 (Value.int .i64 y); exact K2.out _ _))
            go_wp2_with fail; go_ret; exact ⟨ret_bool hv.out.symm, below_drewN HB.out _⟩
          have e5 : decide (x ≤ l) = false := decide_eq_false h5; have HY2 := Lib.hid (HY.out (by dsimp only; have h3 := inB3_yes H1.out; have h4 := inB3_yes H2.out; omega)); clear HY HN; go_wp2_with fail
          go_quiet (first | (go_at_call_of 52 (Value.int .i64 x); exact K1.out _ _) | (go_at_call_of 52 (Value.int .i64 y); exact K2.out _ _))
          go_wp2_with fail
          go_roundw
          case rel => exact ⟨k + 1, by omega, by go_num, HY2.out, below_drewN HB.out _⟩
          case measure => simp [intOf]; omega
      · have HE : Hid (acB ac = true) := rng_yes (fun j hj => HA.out j (by omega))
        go_wp2_with fail; go_ret; exact ⟨ret_bool HE.out.symm, hB⟩
theorem sgiven (a : Option Addr) (cap : Nat) (ac : List Ac) (w : World) (h : IsAc w a ac) (hn : ac.length ≤ 1048576) (hv : acB ac = true) :
  Calls Tryz.prog 53 #[.slice a ac.length cap] w fun e w' => e = .returned (.int .i64 (acS ac ac.length)) ∧ w = w' := by
 rcases h with rfl | ⟨g, o, rfl, hc⟩
 ·go_enter Tryz.func53, Tryz.ntmps53
  go_wp2_with fail
  go_rounds 1
  go_ret; exact ⟨rfl, rfl⟩
 ·have HC := Lib.hid hc
  have HB := Lib.hid (acS_bd hv); have HV := Lib.hid hv; clear hc hv; go_enter Tryz.func53, Tryz.ntmps53; go_wp2_with fail
  go_loop [3, 4] (fun s i => ∃ k : Nat, k ≤ ac.length ∧ i = .int .i64 k ∧ s = .int .i64 (acS ac k)) (fun _ i => ac.length - (intOf i).toNat)
  case atStart => exact ⟨0, Nat.zero_le _, rfl, rfl⟩
  case round =>
   obtain ⟨k, hk, rfl, rfl⟩ := hrel; obtain ⟨b0, b1⟩ := HB.out k hk
   by_cases hlt : k < ac.length
   ·obtain ⟨x0, x1⟩ := HC.out k hlt
    have ht : acS ac (k + 1) = acS ac k + (ac.getD k ac0).2 := rfl; obtain ⟨_, _, z0, z1, _⟩ := (okAc_iff ac k).1 (acB_at HV.out hlt); generalize ac.getD k ac0 = hh at x0 x1 ht z0 z1; obtain ⟨x, y⟩ := hh; dsimp only at x0 x1 ht z0 z1; generalize acS ac k = s at ht b0 b1; have HT := Lib.hid ht
    
    clear ht 
    go_wp2
    go_round
    case rel => exact ⟨k + 1, by omega, by go_num, by rw [HT.out]⟩
    case measure => simp [intOf]; omega
   ·obtain rfl : k = ac.length := by omega
    go_wp2
    go_ret; exact ⟨rfl, rfl⟩
theorem svtw (p : TA) (t : Tw) (w : World) (h : IsTw w p t) :
    Calls Tryz.prog 20 #[twV p t] w fun e w' => e = .returned (.bool (twB t)) ∧ Below w.heap.size w w' := by
  obtain ⟨a1, c1, a2, c2, a3, c3, a4, c4⟩ := p; obtain ⟨hs, ts, ns, r, hd, ac, rt, tm, ls, cm⟩ := t; obtain ⟨h1, h2, h3, h4, n1, n2, n3, n4, k1, k2, k3, k4⟩ := h; dsimp only at h1 h2 h3 h4 n1 n2 n3 n4 k1 k2 k3 k4
  have C1 := fun W (hW : Below w.heap.size w W) => svl a1 c1 hs W (hs_below h1 hW) n1
  have C2 := fun W (hW : Below w.heap.size w W) => svt a2 c2 ts W (tn_below h2 hW) n2
  have C3 := fun W (hW : Below w.heap.size w W) => svn a3 c3 ns W (nd_below h3 hW) n3
  have C4 := fun W => svb r hd W
  have C5 := fun W (hW : Below w.heap.size w W) => sareA a4 c4 ac W (ac_below h4 hW) n4
  have C6 := fun W (hW : Below w.heap.size w W) (hv : acB ac = true) => sgiven a4 c4 ac W (ac_below h4 hW) n4 hv
  obtain ⟨R, hR⟩ : ∃ R, twB ⟨hs, ts, ns, r, hd, ac, rt, tm, ls, cm⟩ = R := ⟨_, rfl⟩
  rw [hR]; unfold twB at hR; dsimp only at hR; have HS5 := Lib.hid (fun (hv : acB ac = true) => acS_bd hv ac.length (Nat.le_refl _))
  obtain ⟨s, hs_⟩ : ∃ s, acS ac ac.length = s := ⟨_, rfl⟩
  rw [hs_] at HS5 C6 hR
  obtain ⟨b1, e1⟩ : ∃ b, vlR hs = b := ⟨_, rfl⟩
  obtain ⟨b2, e2⟩ : ∃ b, vtB ts = b := ⟨_, rfl⟩
  obtain ⟨b3, e3⟩ : ∃ b, vnB ns = b := ⟨_, rfl⟩
  obtain ⟨b4, e4⟩ : ∃ b, vbB r hd = b := ⟨_, rfl⟩
  obtain ⟨b5, e5⟩ : ∃ b, acB ac = b := ⟨_, rfl⟩
  obtain ⟨b6, e6⟩ : ∃ b, inB3 rt 0 500 = b := ⟨_, rfl⟩
  obtain ⟨b7, e7⟩ : ∃ b, inB3 tm 0 5000 = b := ⟨_, rfl⟩
  obtain ⟨b8, e8⟩ : ∃ b, inB3 ls 0 1000000 = b := ⟨_, rfl⟩
  obtain ⟨b9, e9⟩ : ∃ b, inB3 cm 0 1000000 = b := ⟨_, rfl⟩
  rw [e1] at C1 hR; rw [e2] at C2 hR; rw [e3] at C3 hR; rw [e4] at C4 hR; rw [e5] at C5 hR; rw [e6, e7, e8, e9] at hR; have E4 := Lib.hid e4; have E5 := Lib.hid e5; have E6 := Lib.hid e6; have E7 := Lib.hid e7; have E8 := Lib.hid e8; have E9 := Lib.hid e9; have HR := Lib.hid hR; have H1 := Lib.hid C1; have H2 := Lib.hid C2; have H3 := Lib.hid C3; have H4 := Lib.hid C4; have H5 := Lib.hid C5; have H6 := Lib.hid C6; clear h1 h2 h3 h4 k1 k2 k3 k4 e1 e2 e3 e4 e5 e6 e7 e8 e9 hR C1 C2 C3 C4 C5 C6 hs_ n1 n2 n3
  show Calls _ _ #[.agg #[.slice a1 hs.length c1, .slice a2 ts.length c2, .slice a3 ns.length c3, .int .i64 r, .int .i64 hd, .slice a4 ac.length c4, .int .i64 rt, .int .i64 tm, .int .i64 ls, .int .i64 cm]] _ _
  go_enter Tryz.func20, Tryz.ntmps20; have K := Blk.new w 45 #[.slice a1 hs.length c1, .slice a2 ts.length c2, .slice a3 ns.length c3, .int .i64 r, .int .i64 hd, .slice a4 ac.length c4, .int .i64 rt, .int .i64 tm, .int .i64 ls, .int .i64 cm]; have B := (Below.refl w.heap.size w).alloc (Nat.le_refl _) (.cells #[.slice a1 hs.length c1, .slice a2 ts.length c2, .slice a3 ns.length c3, .int .i64 r, .int .i64 hd, .slice a4 ac.length c4, .int .i64 rt, .int .i64 tm, .int .i64 ls, .int .i64 cm] 45); obtain ⟨q0, q1, q2, q3, q4, q5, q6, q7, q8, q9⟩ := tcl K; go_wp2_with fail; generalize w.alloc (.cells #[.slice a1 hs.length c1, .slice a2 ts.length c2, .slice a3 ns.length c3, .int .i64 r, .int .i64 hd, .slice a4 ac.length c4, .int .i64 rt, .int .i64 tm, .int .i64 ls, .int .i64 cm] 45) = U at K B q0 q1 q2 q3 q4 q5 q6 q7 q8 q9 ⊢; refine (H1.out _ B).mono ?_; rintro e u ⟨rfl, C⟩; replace K := K.next C; replace B := bel_tr B C; clear C q0 q1 q2 q3 q4 q5 q6 q7 q8 q9; obtain ⟨q0, q1, q2, q3, q4, q5, q6, q7, q8, q9⟩ := tcl K
  cases b1 with
  | false =>
    go_wp2_with fail; go_ret; exact ⟨ret_bool HR.out, B⟩
  | true =>
  go_wp2_with fail; refine (H2.out _ B).mono ?_; rintro e u ⟨rfl, rfl⟩
  cases b2 with
  | false =>
    go_wp2_with fail; go_ret; exact ⟨ret_bool HR.out, B⟩
  | true =>
  go_wp2_with fail; refine (H3.out _ B).mono ?_; rintro e u ⟨rfl, C⟩; replace K := K.next C; replace B := bel_tr B C; clear C q0 q1 q2 q3 q4 q5 q6 q7 q8 q9; obtain ⟨q0, q1, q2, q3, q4, q5, q6, q7, q8, q9⟩ := tcl K
  cases b3 with
  | false =>
    go_wp2_with fail; go_ret; exact ⟨ret_bool HR.out, B⟩
  | true =>
  go_wp2_with fail; refine (H4.out _).mono ?_; rintro e u ⟨rfl, C⟩; replace K := K.next C; replace B := bel_tr B C; clear C q0 q1 q2 q3 q4 q5 q6 q7 q8 q9; obtain ⟨q0, q1, q2, q3, q4, q5, q6, q7, q8, q9⟩ := tcl K
  cases b4 with
  | false =>
    go_wp2_with fail; go_ret; exact ⟨ret_bool HR.out, B⟩
  | true =>
  go_wp2_with fail; refine (H5.out _ B).mono ?_; rintro e u ⟨rfl, C⟩; replace K := K.next C; replace B := bel_tr B C; clear C q0 q1 q2 q3 q4 q5 q6 q7 q8 q9; obtain ⟨q0, q1, q2, q3, q4, q5, q6, q7, q8, q9⟩ := tcl K
  cases b5 with
  | false =>
    go_wp2_with fail; go_ret; exact ⟨ret_bool HR.out, B⟩
  | true =>
  have K6 := Lib.hid (fun (W : World) (n : Nat) => Calls.quiet_of_same (w := W) (n := n) ((srange3 rt 0 500 _).mono (fun _ _ h => ⟨h.1, h.2.symm⟩))); rw [E6.out] at K6; have K7 := Lib.hid (fun (W : World) (n : Nat) => Calls.quiet_of_same (w := W) (n := n) ((srange3 tm 0 5000 _).mono (fun _ _ h => ⟨h.1, h.2.symm⟩))); rw [E7.out] at K7; have K8 := Lib.hid (fun (W : World) (n : Nat) => Calls.quiet_of_same (w := W) (n := n) ((srange3 ls 0 1000000 _).mono (fun _ _ h => ⟨h.1, h.2.symm⟩))); rw [E8.out] at K8; have K9 := Lib.hid (fun (W : World) (n : Nat) => Calls.quiet_of_same (w := W) (n := n) ((srange3 cm 0 1000000 _).mono (fun _ _ h => ⟨h.1, h.2.symm⟩))); rw [E9.out] at K9; have K10 := Lib.hid (fun (n : Nat) => Calls.quiet_of_same (w := u) (n := n) ((H6.out (World.drewN u n) (below_drewN B n) E5.out).mono (fun _ _ h => ⟨h.1, h.2.symm⟩)))
  cases b6 with
  | false =>
    go_wp2_with fail
    go_quiet (first | (go_at_call_of 52 (Value.int .i64 rt); exact K6.out _ _))
    go_wp2_with fail; go_ret; exact ⟨ret_bool HR.out, below_drewN B _⟩
  | true =>
  cases b7 with
  | false =>
    go_wp2_with fail
    go_quiet (first | (go_at_call_of 52 (Value.int .i64 rt); exact K6.out _ _) | (go_at_call_of 52 (Value.int .i64 tm); exact K7.out _ _))
    go_wp2_with fail; go_ret; exact ⟨ret_bool HR.out, below_drewN B _⟩
  | true =>
  cases b8 with
  | false =>
    go_wp2_with fail
    go_quiet (first | (go_at_call_of 52 (Value.int .i64 rt); exact K6.out _ _) | (go_at_call_of 52 (Value.int .i64 tm); exact K7.out _ _) | (go_at_call_of 52 (Value.int .i64 ls); exact K8.out _ _))
    go_wp2_with fail; go_ret; exact ⟨ret_bool HR.out, below_drewN B _⟩
  | true =>
  cases b9 with
  | false =>
    go_wp2_with fail
    go_quiet (first | (go_at_call_of 52 (Value.int .i64 rt); exact K6.out _ _) | (go_at_call_of 52 (Value.int .i64 tm); exact K7.out _ _) | (go_at_call_of 52 (Value.int .i64 ls); exact K8.out _ _) | (go_at_call_of 52 (Value.int .i64 cm); exact K9.out _ _))
    go_wp2_with fail; go_ret; exact ⟨ret_bool HR.out, below_drewN B _⟩
  | true =>
  obtain ⟨s0, s1⟩ := HS5.out E5.out
  have v4 : 0 ≤ hd ∧ hd ≤ 20000 := by have := vb_iff.1 E4.out; omega
  obtain ⟨v5, v6⟩ := inB3_yes E8.out; obtain ⟨v7, v8⟩ := v4
  have hlen : (ac.length : Int) ≤ 1048576 := by omega
  have w1 : IntKind.i64.wrap (s + hd) = s + hd := by rw [IntKind.wrap_i64]; omega
  have w2 : IntKind.i64.wrap (s + hd + ls) = s + hd + ls := by rw [IntKind.wrap_i64]; omega
  clear HS5 hlen n4 s0 s1 v5 v6 v7 v8; go_wp2_with fail
  go_quiet (first | (go_at_call_of 52 (Value.int .i64 rt); exact K6.out _ _) | (go_at_call_of 52 (Value.int .i64 tm); exact K7.out _ _) | (go_at_call_of 52 (Value.int .i64 ls); exact K8.out _ _) | (go_at_call_of 52 (Value.int .i64 cm); exact K9.out _ _) | (go_at_call_of 53 (Value.slice a4 ac.length c4); exact K10.out _))
  go_wp2_with fail; go_ret; exact ⟨itown_last R HR.out.symm, below_drewN B _⟩

theorem sinRangeT (n l h : Int) (w : World) :
  Calls Tryz.prog 52 #[.int .i64 n, .int .i64 l, .int .i64 h] w fun e w' => e = .returned (.bool (decide (l ≤ n) && decide (n ≤ h))) ∧ w = w' := by
 by_cases c : n < l ∨ h < n
 ·have e : (decide (l ≤ n) && decide (n ≤ h)) = false := by
   rcases c with c | c
   ·rw [decide_eq_false (by omega : ¬ l ≤ n)]; rfl
   ·rw [decide_eq_false (by omega : ¬ n ≤ h)]; simp
  rw [e]; exact inRange_no n l h w c
 ·rw [decide_eq_true (by omega : l ≤ n), decide_eq_true (by omega : n ≤ h)]; exact inRange_yes n l h w (by omega) (by omega)
theorem own_drewT {w : World} {base n : Nat} {v : Value} {xs : List Value} (h : w.ownsRow base 108 2 v n xs) : w.drew.ownsRow base 108 2 v n xs := h
theorem g_transO {a b c : World} {row : Option Nat} (h : a.grownBy b row) (k : b.grownBy c row) : a.grownBy c row :=
 ⟨k.os.trans h.os, k.tape.trans h.tape, k.output.trans h.output, Nat.le_trans h.size k.size, fun i hi hne => (k.block i (Nat.lt_of_lt_of_le hi h.size) hne).trans (h.block i hi hne)⟩
theorem kp2g {W wq v : World} {row : Option Nat} {g0 g5 a0 a1 : Nat} {v0 v1 : Value} (hg : W.grownBy wq row) (n0 : row ≠ some g0) (n5 : row ≠ some g5)
  (h : (W.cell? ⟨g0, a0, none⟩ = some v0 ∧ W.cell? ⟨g5, a1, none⟩ = some v1) ∧ v.grownBy W row) : (wq.cell? ⟨g0, a0, none⟩ = some v0 ∧ wq.cell? ⟨g5, a1, none⟩ = some v1) ∧ v.grownBy wq row := by
 obtain ⟨⟨a, b⟩, g⟩ := h
 have k : ∀ {q o : Nat} {u : Value}, row ≠ some q → W.cell? ⟨q, o, none⟩ = some u → wq.cell? ⟨q, o, none⟩ = some u := fun hn hp => (World.cell?_of_block (hg.block _ (World.block_lt_of_cell? W _ hp) (fun e => hn e.symm))).trans hp
 exact ⟨⟨k n0 a, k n5 b⟩, g_transO g hg⟩
theorem sTurnsFor (a : Option Addr) (cap : Nat) (hs : List Hd) (n : Int) (w : World) (h : IsHs w a hs) (hn : hs.length ≤ 1048576) :
    Calls Tryz.prog 56 #[.slice a hs.length cap, .int .i64 n] w (OutTT w (tfB hs n) (tfL hs n)) := by
  by_cases hcd : cdR hs = -1
  · have CU := sUnits_no a cap hs w h hn hcd
    rw [tf_no (.inl hcd)]; clear h hcd; go_enter Tryz.func56, Tryz.ntmps56; go_wp2_with fail; refine CU.mono ?_; rintro e w1 ⟨rfl, C⟩; go_wp2_with fail
    go_returns
    exact tt_no rfl C
  have CU := sUnits a cap hs w h hn hcd; have hul := un_len hs
  have hl1 : 1 ≤ hs.length := by
    rcases hs with _ | ⟨x, t⟩
    · exact absurd (vlR_is (cd_pos hcd).1).2.one (by decide)
    · simp
  have q0 : ((hs.length : Int) == 0) = false := beq_eq_false_iff_ne.2 (by omega); have q1 : (hs.length == 0) = false := beq_eq_false_iff_ne.2 (by omega); have CW := Lib.hid (fun (b : Option Addr) (c : Nat) W (hW : IsInts W b (unR hs)) => (by have := svalidSplit n b c (unR hs) W hW (by rw [hul]; exact hn); rw [hul] at this; exact this : Calls Tryz.prog 93 #[.int .i64 n, .slice b hs.length c] W fun e w' => e = .returned (.bool (csB n (unR hs))) ∧ W = w'))
  have CN := fun W => sinRangeT n 1 336 W
  cases hv : csB n (unR hs) with
  | false =>
    have hno : tfB hs n = false := by
      cases c : tfB hs n with
      | false => rfl
      | true =>
        unfold tfB at c; simp only [Bool.and_eq_true, decide_eq_true_eq] at c; rw [tf_cs c.1.2.1 c.1.2.2 c.2] at hv; cases hv
    rw [hno]; rw [hv] at CW; clear h hcd hv hul hno CN; go_enter Tryz.func56, Tryz.ntmps56; go_wp2_with fail; refine CU.mono ?_; rintro e w1 ⟨v, rfl, R1, C⟩; obtain ⟨b1, cp1, rfl, I1⟩ := own_unitsT R1; go_wp2_with fail; refine (CW.out _ _ _ I1).mono ?_; rintro e w' ⟨rfl, rfl⟩; clear R1 I1; go_wp2_with fail
    go_returns
    exact tt_no rfl C
  | true =>
  rw [hv] at CW
  cases hr : (decide (1 ≤ n) && decide (n ≤ 336)) with
  | false =>
    have hno : tfB hs n = false := by unfold tfB; rw [hr]; simp
    rw [hno]; rw [hr] at CN; clear h hcd hv hul hno hr; go_enter Tryz.func56, Tryz.ntmps56; go_wp2_with fail; refine CU.mono ?_; rintro e w1 ⟨v, rfl, R1, C⟩; obtain ⟨b1, cp1, rfl, I1⟩ := own_unitsT R1; go_wp2_with fail; refine (CW.out _ _ _ I1).mono ?_; rintro e w' ⟨rfl, rfl⟩; clear R1 I1; go_wp2_with fail; refine (CN _).mono ?_; rintro e w' ⟨rfl, rfl⟩; go_wp2_with fail
    go_returns
    exact tt_no rfl C
  | true =>
    have hr2 := hr; simp only [Bool.and_eq_true, decide_eq_true_eq] at hr2
    have hvw : vwB (unR hs) = true := by
      unfold csB at hv; rw [Bool.and_eq_true] at hv; exact hv.2
    have hcs := hv; rw [tf_yes hcd hr2.1 hr2.2 hvw]; rw [hr] at CN; have HS := Lib.hid (tf_some (hs := hs) hr2.1 hcs); have CR := Lib.hid (fun (b : Option Addr) (c : Nat) W (hW : IsInts W b (unR hs)) => (by have := sbyRest n b c (unR hs) W hW (by rw [hul]; exact hn) hcs; rw [hul] at this; exact this : Calls Tryz.prog 94 #[.int .i64 n, .slice b hs.length c] W (DivS hs.length (sr n (unR hs)) W)))
    have hgl : (sr n (unR hs)).length = hs.length := by rw [sr_len, hul]
    have hL : tfL hs n = tfTo hs (sr n (unR hs)) hs.length := rfl; rw [hL] at HS ⊢; have HTL := Lib.hid (fun k => tfTo_len hs (sr n (unR hs)) k); obtain ⟨i0, hi0, hz0, hz1, hz2⟩ := info_parts infoTn
    rcases h with rfl | ⟨g0, o, rfl, hcl⟩
    · exact absurd HS.out (by show ¬ 0 < 0; omega)
    have hg0 : g0 < w.heap.size := World.block_lt_of_cell? w _ (hcl 0 (by omega)).1; have HC := Lib.hid hcl; clear hv hcd hcl hcs hL hr hr2 hvw hul; go_enter Tryz.func56, Tryz.ntmps56; go_wp2_with fail; refine CU.mono ?_; rintro e w1 ⟨v, rfl, R1, C⟩; obtain ⟨b1, cp1, rfl, I1⟩ := own_unitsT R1; clear R1; go_wp2_with fail; refine (CW.out _ _ _ I1).mono ?_; rintro e w' ⟨rfl, rfl⟩; go_wp2_with fail; refine (CN _).mono ?_; rintro e w' ⟨rfl, rfl⟩
    have hO : (w1.alloc (.cells #[] 108)).ownsRow w1.heap.size 108 2 (.slice (some ⟨w1.heap.size, 0, none⟩) 0 0) 0 [] := ⟨by simp, .inr ⟨w1.heap.size, 0, #[], rfl, Nat.le_refl _, Go.Deep.blk_alloc_new _ _, Nat.le_refl _, by unfold maxLen; omega, rfl, rfl⟩⟩
    have HOw := Lib.hid hO; have hS := C.size; have CRa := CR.out _ cp1 _ (ints_below I1 ((Below.refl w1.heap.size w1).alloc (Nat.le_refl _) (.cells #[] 108))); have HB := Lib.hid (C.alloc C.size (.cells #[] 108)); have HK := Lib.hid (Blk.new w1 108 #[])
    have hszA : w1.heap.size < (w1.alloc (.cells #[] 108)).heap.size := by simp
    clear C hO I1 CR CW CU CN; generalize unR hs = us at *; generalize sr n us = gs at *; go_wp2_with fail; refine CRa.mono ?_; rintro e w2 ⟨b2, cp2, rfl, I2, C2⟩
    rcases I2 with rfl | ⟨g2, o2, rfl, hc2⟩
    · simp at hgl; omega
    have hne : w1.heap.size ≠ g2 := fun e => by
      have a := hc2 0 (by omega); rw [← e, (HK.out.next C2).cell] at a
      simp at a
    have HR2 : Hid (w2.ownsRow w1.heap.size 108 2 (.slice (some ⟨w1.heap.size, 0, none⟩) 0 0) 0 [] ∧ (∀ i, i < hs.length → w2.cell? ⟨g2, o2 + i, none⟩ = some (.int .i64 (gs.getD i 0))) ∧ Below w.heap.size w w2) := ⟨own_nextT HOw.out C2, fun i hi => hc2 i (by omega), bel_tr HB.out C2⟩
    have hs12 : w1.heap.size < w2.heap.size := by have := C2.size; omega
    clear CRa hc2 C2 HOw HB HK; go_wp2_with fail
    go_loopw [7, 9] (fun v i wr => ∃ k : Nat, k ≤ hs.length ∧ i = .int .i64 k ∧ Hid (wr.ownsRow w1.heap.size 108 2 v (tfTo hs gs k).length (valsTn (tfTo hs gs k)) ∧ (∀ i, i < hs.length → wr.cell? ⟨g2, o2 + i, none⟩ = some (.int .i64 (gs.getD i 0))) ∧ Below w.heap.size w wr ∧ v.ownBlock ≠ some g2) ∧ w1.heap.size < wr.heap.size) (fun _ i _ => hs.length - (intOf i).toNat)
    case atStart => exact ⟨0, Nat.zero_le _, rfl, ⟨HR2.out.1, HR2.out.2.1, HR2.out.2.2, fun c => hne (Option.some.inj c)⟩, hs12⟩
    case round =>
      clear HR2; obtain ⟨k, hk, rfl, HR, hsw⟩ := hrel
      by_cases hlt : k < hs.length
      · have c0 := hs_at HC.out HR.out.2.2.1 hlt
        have c1 := HR.out.2.1 k hlt; have hll := HTL.out k
        have ny := fun h => tfTo_yes (hs := hs) (gs := gs) (k := k) h
        have nn := fun h => tfTo_no (hs := hs) (gs := gs) (k := k) h
        have hszr := World.block_lt_of_cell? wr _ c1; generalize (hs.getD k hd0).1 = x0 at c0 ny; generalize gs.getD k 0 = y at c1 ny nn
        have b0 : (0 : Int) ≤ (k : Int) := by omega
        have b1_ : (k : Int) < (hs.length : Int) := by omega
        by_cases hy0 : 0 < y
        · have e3 : decide (0 < y) = true := decide_eq_true hy0
          have HN := Lib.hid (ny hy0); clear ny nn hy0; have HRR := HR
          obtain ⟨out, hout⟩ : ∃ out, tfTo hs gs k = out := ⟨_, rfl⟩
          have HN2 : Hid (tfTo hs gs (k + 1) = out ++ [(x0, y)]) := by show _ = _; rw [HN.out, hout]
          have HO : Hid (wr.ownsRow w1.heap.size 108 2 u7 out.length (valsTn out)) := by show World.ownsRow _ _ _ _ _ _ _; rw [← hout]; exact HR.out.1
          have n0 : u7.ownBlock ≠ some g0 := fun e => by have := (HO.out.lt g0 e).1; omega
          have n5 : u7.ownBlock ≠ some g2 := HR.out.2.2.2; rw [hout] at hll; clear HN hout HR; go_wp2_with fail; refine wp_region_held_drew (S := (fun W' => (W'.cell? ⟨g0, o + k * 3, none⟩ = some (.int .i64 x0) ∧ W'.cell? ⟨g2, o2 + k, none⟩ = some (.int .i64 y)) ∧ wr.grownBy W' u7.ownBlock)) (by kernel_rfl) ?_ (fun hHeld => ?_)
          · exact ⟨⟨c0, c1⟩, g_drewN (g_of (Below.refl _ _) _) 1⟩
          refine tk (i := 0) (v := ?v17c) rfl ?c17c ?d17c
          case c17c => (refine .inl ⟨by rfl, ?_⟩; intro w h; (try dsimp only at h); go_simp <;> with_reducible rfl)
          try simp only [pt]
          refine tk (i := 1) (v := ?v17d) rfl ?c17d ?d17d
          case c17d => (refine .inl ⟨by rfl, ?_⟩; intro w h; (try dsimp only at h); go_simp <;> with_reducible rfl)
          try simp only [pt]
          refine tk (i := 2) (v := ?v17e) rfl ?c17e ?d17e
          case c17e => (refine .inl ⟨by rfl, ?_⟩; intro w h; (try dsimp only at h); go_simp <;> with_reducible rfl)
          try simp only [pt]
          refine tk (i := 3) (v := ?v17f) rfl ?c17f ?d17f
          case c17f => (refine .inl ⟨by rfl, ?_⟩; intro w h; (try dsimp only at h); go_simp <;> with_reducible rfl)
          try simp only [pt]
          refine tk (i := 4) (v := ?v180) rfl ?c180 ?d180
          case c180 => (refine .inl ⟨by rfl, ?_⟩; intro w h; (try dsimp only at h); go_simp <;> with_reducible rfl)
          try simp only [pt]
          refine tk (i := 5) (v := ?v181) rfl ?c181 ?d181
          case c181 => (refine .inl ⟨by rfl, ?_⟩; intro w h; (try dsimp only at h); go_simp <;> with_reducible rfl)
          try simp only [pt]
          refine tk (i := 6) (v := ?v182) rfl ?c182 ?d182
          case c182 => (refine .inl ⟨by rfl, ?_⟩; intro w h; (try dsimp only at h); go_simp <;> with_reducible rfl)
          try simp only [pt]
          refine tk (i := 7) (v := ?v183) rfl ?c183 ?d183
          case c183 => (refine .inl ⟨by rfl, ?_⟩; intro w h; (try dsimp only at h); go_simp <;> with_reducible rfl)
          try simp only [pt]
          refine tk (i := 8) (v := ?v184) rfl ?c184 ?d184
          case c184 => (refine .inl ⟨by rfl, ?_⟩; intro w h; (try dsimp only at h); go_simp <;> with_reducible rfl)
          try simp only [pt]
          refine tk (i := 9) (v := ?v185) rfl ?c185 ?d185
          case c185 => (refine .inl ⟨by rfl, ?_⟩; intro w h; (try dsimp only at h); go_simp <;> with_reducible rfl)
          try simp only [pt]
          refine tk (i := 10) (v := ?v186) rfl ?c186 ?d186
          case c186 => (refine .inl ⟨by rfl, ?_⟩; intro w h; (try dsimp only at h); go_simp <;> with_reducible rfl)
          try simp only [pt]
          refine wpAnyH_ready (rs := [11]) (by kernel_rfl) (by simp) (AllReadyH.cons (o := ?ooa11) ?hia11 (fun K hK => ?hka11) AllReadyH.nil)
          rotate_left
          case hia11 => (simp only [gl]; rfl)
          (rw [if_pos (by rfl)]; go_simp; refine hK.out _ _ (kp2g (g_of ((Below.refl _ _).alloc (Nat.le_refl _) _) _) n0 n5 hHeld) (fun hHeld => ?_); clear hK K)
          try simp only [pt]
          refine wpAnyH_ready (rs := [12]) (by kernel_rfl) (by simp) (AllReadyH.cons (o := ?ooa12) ?hia12 (fun K hK => ?hka12) AllReadyH.nil)
          rotate_left
          case hia12 => (simp only [gl]; rfl)
          (rw [if_pos (by rfl)]; refine wp_append_any _ (.tmp 41) (.tmp 52) _ rfl w1.heap.size 108 i0 _ 2 16 Tryz.underlying40 hi0 hz0 hz1 hz2 rfl (by decide) _ _ _ rfl (World.ownsRow.alloc (own_drewT HO.out) _) (wr.heap.size + 1) (some ⟨wr.heap.size, 0, none⟩) 1 1 [.int .i64 x0, .int .i64 y] rfl ⟨by simp, fun _ => ⟨⟨wr.heap.size, 0, none⟩, rfl, Nat.lt_succ_self _, new_cells wr.drew _ _⟩⟩ (valsTn_one [(x0, y)]) (by unfold maxLen; omega) (by omega) (by simp <;> omega) ?_; intro v3 w5 hown3 hgrow3 hat3; refine hK.out _ _ (kp2g hgrow3 n0 n5 hHeld) (fun hHeld => ?_); clear hK K)
          try simp only [pt]
          refine tk (i := 13) (v := ?v187) rfl ?c187 ?d187
          case c187 => (refine .inl ⟨by rfl, ?_⟩; intro w h; (try dsimp only at h); go_simp <;> with_reducible rfl)
          try simp only [pt]
          refine wpAnyH_done (by kernel_rfl) ?_ _
          have HF : Hid (w5.ownsRow w1.heap.size 108 2 v3 (tfTo hs gs (k + 1)).length (valsTn (tfTo hs gs (k + 1))) ∧ (∀ i, i < hs.length → w5.cell? ⟨g2, o2 + i, none⟩ = some (.int .i64 (gs.getD i 0))) ∧ Below w.heap.size w w5 ∧ v3.ownBlock ≠ some g2) := by
            have hB := HRR.out.2.2.1; have hsz := hB.size; refine ⟨by rw [HN2.out, List.length_append, valsTn_append]; exact hown3, fun i hi => (World.cell?_of_block (hHeld.2.block _ (World.block_lt_of_cell? wr _ (HRR.out.2.1 i hi)) (fun e => n5 e.symm))).trans (HRR.out.2.1 i hi), hB.grown hHeld.2 hsz (fun q hq => by have := (HO.out.lt q hq).1; omega), ?_⟩
            rcases hat3 with e | e
            · rw [e]; exact n5
            · rw [e]; intro c; have c := Option.some.inj c; have hszr2 : g2 < wr.heap.size := hszr; simp at c; omega
          have hs5 : w1.heap.size < w5.heap.size := by have := hHeld.2.size; omega
          clear HO HRR hown3 hgrow3 hat3 hHeld n0 n5 c0 c1; go_wp2_with fail
          go_roundw
          case rel => exact ⟨k + 1, by omega, by go_num, HF.out, hs5⟩
          case measure => simp [intOf]; omega
        · have e3 : decide (0 < y) = false := decide_eq_false hy0
          have HN := Lib.hid (nn hy0); clear ny nn hy0
          have HF : Hid (wr.ownsRow w1.heap.size 108 2 u7 (tfTo hs gs (k + 1)).length (valsTn (tfTo hs gs (k + 1))) ∧ (∀ i, i < hs.length → wr.cell? ⟨g2, o2 + i, none⟩ = some (.int .i64 (gs.getD i 0))) ∧ Below w.heap.size w wr ∧ u7.ownBlock ≠ some g2) := by show _ ∧ _; rw [HN.out]; exact HR.out
          clear HR HN; go_wp2_with fail
          go_roundw
          case rel => exact ⟨k + 1, by omega, by go_num, HF.out, hsw⟩
          case measure => simp [intOf]; omega
      · obtain rfl : k = hs.length := by omega
        rcases Flat.own (zs := flatTn (tfTo hs gs hs.length)) HR.out.1 with ⟨_, hz⟩ | ⟨g, cp, rfl, lg, F, hcp⟩
        · have := HS.out; omega
        have HF := Lib.hid (And.intro F HR.out.2.2.1); clear HR F; go_wp2_with fail
        go_returns
        exact tt_yes rfl rfl (by omega) HF.out.1 hcp HF.out.2
end Go.Proofs.YthagafkjlecagabGreat
