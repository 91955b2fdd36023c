/- Claims by the model: valid ones, equal gains, equal losses. Condition: at most 1048576 numbers. -/
import Derived.Test.YtojkgabkiagjdacClmI
import Derived.Test.YtojkgabkiagjdacReadz
import Derived.Deep.QuietTactic
import Derived.BigQuiet
namespace Go.Proofs.Ytojkgabkiagjdac
open Go.RowKit
set_option linter.unusedSimpArgs false
set_option linter.unusedVariables false
set_option maxRecDepth 100000 in
set_option maxHeartbeats 4000000 in
/-- spec.validClaims -/
theorem svc (n : Int) (a : Option Addr) (ca : Nat) (cs : List Int) (w : World) (h : IsInts w a cs) (hn : cs.length ≤ 1048576) :
    Calls Try.prog 44 #[.int .i64 n, .slice a cs.length ca] w fun e w' => e = .returned (.bool (vcB n cs)) ∧ w = w' := by
  have HA := Lib.hid h
  obtain ⟨m, hm⟩ : ∃ m, cs.length = m := ⟨_, rfl⟩
  have CS := fun hz => stotal a ca cs w h hn hz
  rw [hm] at CS ⊢
  have HCS := Lib.hid CS
  have HL := Lib.hid hm
  have m1 : m ≤ 1048576 := by omega
  clear h hm hn CS
  go_enter Try.func44, Try.ntmps44
  go_wp2_with fail
  go_loop [5] (fun i => ∃ k : Nat, k ≤ m ∧ i = .int .i64 k ∧ Hid (∀ j, j < k → 0 ≤ cs.getD j 0 ∧ cs.getD j 0 ≤ 500)) (fun i => m - (intOf i).toNat)
  case atStart => exact ⟨0, Nat.zero_le _, rfl, fun j hj => absurd hj (Nat.not_lt_zero _)⟩
  case round =>
    obtain ⟨k, hk, rfl, HE⟩ := hrel
    by_cases hlt : k < m
    · have hkc : k < cs.length := by have := HL.out; omega
      obtain ⟨gc, oc, rfl, x0⟩ := ints_open HA.out (by omega)
      have x0 := x0 k hkc
      have HY : Hid (0 ≤ cs.getD k 0 → cs.getD k 0 ≤ 500 → ∀ j, j < k + 1 → 0 ≤ cs.getD j 0 ∧ cs.getD j 0 ≤ 500) := fun c1 c2 j hj => by
        by_cases e : j = k
        · subst e; exact ⟨c1, c2⟩
        · exact HE.out j (by omega)
      have HN : Hid (cs.getD k 0 < 0 ∨ 500 < cs.getD k 0 → vcB n cs = false) := fun c => vc_no (fun x => by have := allB_get x.1 hkc; omega)
      generalize cs.getD k 0 = z at *
      have k0 : (0 : Int) ≤ (k : Int) := by omega
      have k1 : (k : Int) < (m : Int) := by omega
      clear hkc
      by_cases c : z < 0 ∨ 500 < z
      · have HQ := Lib.hid (HN.out c)
        go_wp2_with fail
        refine (inRange_no z 0 500 _ c).mono ?_
        rintro e w' ⟨rfl, rfl⟩
        go_wp2_with fail
        go_ret
        exact ⟨ret_bool HQ.out.symm, rfl⟩
      · have c0 : 0 ≤ z := by omega
        have c1 : z ≤ 500 := by omega
        have HQ := Lib.hid (HY.out c0 c1)
        clear c
        go_wp2_with fail
        refine (inRange_yes z 0 500 _ c0 c1).mono ?_
        rintro e w' ⟨rfl, rfl⟩
        go_wp2_with fail
        go_round
        case rel => exact ⟨k + 1, by omega, by go_num, HQ.out⟩
        case measure => simp [intOf]; omega
    · obtain rfl : k = m := by omega
      have hall : allB cs 500 = true := allB_yes (fun j hj => HE.out j (by have := HL.out; omega))
      by_cases h12 : 12 < k
      · have e1 : decide ((k : Int) ≤ 12) = false := decide_eq_false (by omega)
        have HQ : Hid (vcB n cs = false) := vc_no (fun x => by have := x.2.1; have := HL.out; omega)
        clear h12 hall
        go_wp2_with fail
        go_ret
        exact ⟨ret_bool HQ.out.symm, rfl⟩
      · have e1 : decide ((k : Int) ≤ 12) = true := decide_eq_true (by omega)
        have CS := HCS.out (all_bd hall (by omega))
        have HV : Hid (vcB n cs = (decide (0 ≤ n) && decide (n ≤ cs.sum))) := by show _ = _; unfold vcB; rw [hall, decide_eq_true (by have := HL.out; omega : cs.length ≤ 12)]; rfl
        clear h12 hall HCS
        generalize cs.sum = s at *
        by_cases hb : n < 0 ∨ s < n
        · have HF : Hid (vcB n cs = false) := by show _ = _; rw [HV.out]; rcases hb with hb | hb; rw [decide_eq_false (by omega)]; rfl; rw [decide_eq_false (by omega : ¬ n ≤ s)]; simp
          go_wp2_with fail
          refine CS.mono ?_
          rintro e w' ⟨rfl, rfl⟩
          go_wp2_with fail
          refine (inRange_no n 0 s _ hb).mono ?_
          rintro e w' ⟨rfl, rfl⟩
          go_wp2_with fail
          go_ret
          exact ⟨ret_bool HF.out.symm, rfl⟩
        · have HF : Hid (vcB n cs = true) := by show _ = _; rw [HV.out, decide_eq_true (by omega), decide_eq_true (by omega)]; rfl
          have n0 : 0 ≤ n := by omega
          have n1 : n ≤ s := by omega
          clear hb
          go_wp2_with fail
          refine CS.mono ?_
          rintro e w' ⟨rfl, rfl⟩
          go_wp2_with fail
          refine (inRange_yes n 0 s _ n0 n1).mono ?_
          rintro e w' ⟨rfl, rfl⟩
          go_wp2_with fail
          go_ret
          exact ⟨ret_bool HF.out.symm, rfl⟩
theorem fair_bd {cs gs : List Int} {n : Int} (h : Fair cs gs n) (hn : n ≤ 6000) {q : Nat} (hq : q < cs.length) : 0 ≤ gs.getD q 0 ∧ gs.getD q 0 ≤ 6000 := by
  have x1 := h.2.2.1 q hq
  have x3 := sum_setZ gs q 0 (by rw [h.1]; exact hq)
  have x5 : 0 ≤ (gs.set q 0).sum := by
    have := sum_leZ (List.replicate cs.length 0) (gs.set q 0) (by rw [List.length_set, List.length_replicate, h.1]) (fun i hi => by
      rw [List.length_replicate] at hi
      rw [rep_get, getD_setZ i _ (by rw [h.1]; exact hq)]
      split
      · exact Int.le_refl _
      · exact (h.2.2.1 i hi).1)
    rwa [rep_sum] at this
  have := h.2.1
  omega
set_option maxRecDepth 100000 in
set_option maxHeartbeats 4000000 in
/-- spec.fill -/
theorem sFill (n : Int) (a : Option Addr) (ca : Nat) (cs : List Int) (w : World) (h : IsInts w a cs) (hv : vcB n cs = true) :
    Calls Try.prog 63 #[.int .i64 n, .slice a cs.length ca] w (OutI w (fillN cs n.toNat)) := by
  obtain ⟨v1, v2, v3, v4⟩ := vc_iff.1 hv
  have hs := vc_bd v1 v2
  have HN := Lib.hid (vc_nn hv)
  have HV := Lib.hid v4
  have HA := Lib.hid h
  obtain ⟨m, hm⟩ : ∃ m, cs.length = m := ⟨_, rfl⟩
  have hmk := run_make_row' (P := Try.prog) 23 3 (.int .i64 0) 8 Try.underlying23 infoInt rfl .i64 .i64 m (by omega) (by omega)
  have hM := OwnI.made (Below.refl w.heap.size w) m (by omega)
  have hB2 := (Below.refl w.heap.size w).alloc (Nat.le_refl _) (.cells (madeCells #[.int .i64 0] m) 3)
  rw [show List.replicate m (0 : Int) = fillN cs 0 from by rw [← hm]; rfl] at hM
  have HM := Lib.hid (And.intro hM hB2)
  have HL := Lib.hid hm
  rw [hm]
  have m12 : m ≤ 12 := by omega
  have s1 : n ≤ 6000 := by omega
  clear hM hB2 hm hv v1 v2 v4 h hs
  go_enter Try.func63, Try.ntmps63
  go_wp2_with fail
  clear hmk
  go_loopw [6] (fun l wr => ∃ j : Nat, j ≤ n.toNat ∧ l = .int .i64 (j : Int) ∧ Hid (OwnI wr w.heap.size (.slice (some ⟨w.heap.size, 0, none⟩) m m) (fillN cs j) ∧ Below w.heap.size w wr)) (fun l _ => n.toNat - (intOf l).toNat)
  case atStart => exact ⟨0, Nat.zero_le _, rfl, HM.out⟩
  case round =>
    clear HM
    obtain ⟨j, hj, rfl, HR⟩ := hrel
    obtain ⟨w4, hw4⟩ : ∃ W, W = wr := ⟨_, rfl⟩
    subst hw4
    by_cases hjt : j < n.toNat
    · have lf : (fillN cs j).length = m := by rw [fill_len, HL.out]
      have F := fill_fair HN.out j (by have := HV.out; omega)
      obtain ⟨q, e1, hq, q0, _⟩ := fair_at F (by have := HV.out; omega)
      have hq1 : q < m := by have := HL.out; omega
      have c0 : (j : Int) < n := by omega
      have fb := fair_bd F (by omega) hq
      have HST : Hid (fillN cs (j + 1) = (fillN cs j).set q ((fillN cs j).getD q 0 + 1)) := by show stepG cs (fillN cs j) = _; unfold stepG; rw [e1, show ((q : Int)).toNat = q by omega]
      rw [HL.out] at e1
      obtain ⟨g, o, rfl, hc⟩ := ints_open (ints_below HA.out HR.out.2) (by omega)
      obtain ⟨g2, o2, e2, hd⟩ := ints_open HR.out.1.at_ (by omega)
      obtain ⟨rfl, rfl⟩ : w.heap.size = g2 ∧ 0 = o2 := by injection e2 with e2; injection e2 with x1 x2 x3; exact ⟨x1, x2⟩
      rw [HL.out] at hc
      rw [lf] at hd
      simp only [Nat.zero_add] at hd
      obtain ⟨gs, hgs⟩ : ∃ gs, fillN cs j = gs := ⟨_, rfl⟩
      rw [hgs] at hd e1 fb
      have HC := Lib.hid hc
      have HD := Lib.hid hd
      have HX : Hid (∀ i, i < m → True) := fun _ _ => trivial
      have HE1 : Hid (leastTo cs gs m = (q : Int)) := e1
      have HGS := Lib.hid hgs
      have HQ1 : Hid (q < m) := hq1
      have HFB := Lib.hid fb
      have HJ := Lib.hid (And.intro hj hjt)
      have HC0 := Lib.hid c0
      clear lf F e1 q0 c0 hc hd e2 hgs hq1 fb hj hjt hq
      have c0 := HC0.out
      go_wp2_with fail
      clear c0
      go_loopw [7, 8] (fun b i wi => ∃ k : Nat, k ≤ m ∧ i = .int .i64 k ∧ b = .int .i64 (leastTo cs gs k) ∧ Below w4.heap.size w4 wi) (fun _ i _ => m - (intOf i).toNat)
      case atStart => exact ⟨0, Nat.zero_le _, rfl, rfl, Below.refl _ _⟩
      case round =>
        obtain ⟨k, hk, rfl, hbest, hB⟩ := hrel
        by_cases hlt : k < m
        · have c1 := cell_now (HC.out k hlt) hB
          have c2 := cell_now0 (HD.out k hlt) hB
          have i0 : (0 : Int) ≤ (k : Int) := by omega
          have i1 : (k : Int) < (m : Int) := by omega
          have L1 := @least_skip cs gs k
          have L2 := @least_first cs gs k
          have bx := HX.out k hlt
          rcases least_bd cs gs k with e1 | ⟨q, e1, hq⟩
          · rw [e1] at hbest
            subst hbest
            have L2' := fun h => L2 h e1
            rw [e1] at L1
            clear e1 L2
            generalize cs.getD k 0 = x at *
            generalize gs.getD k 0 = y at *
            by_cases cxy : y < x
            · have HS := Lib.hid (L2' cxy)
              have e2 : decide (y < x) = true := decide_eq_true cxy
              clear L1 L2'
              go_wp2_with fail
              go_quiet (fail)
              go_wp2
              go_roundw
              case rel => exact ⟨k + 1, by omega, by go_num, by rw [HS.out], below_drewN hB _⟩
              case measure => simp [intOf]; omega
            · have HS := Lib.hid (L1 cxy)
              have e2 : decide (y < x) = false := decide_eq_false cxy
              clear L1 L2'
              go_wp2_with fail
              go_quiet (fail)
              go_wp2
              go_roundw
              case rel => exact ⟨k + 1, by omega, by go_num, by rw [HS.out], below_drewN hB _⟩
              case measure => simp [intOf]; omega
          · rw [e1] at hbest
            subst hbest
            have L3 := fun h => least_next (cs := cs) (gs := gs) (k := k) (q := q) h e1
            rw [e1] at L1
            have c3 := cell_now0 (HD.out q (by omega)) hB
            have c4 := cell_now (HC.out q (by omega)) hB
            have by_ := HX.out q (by omega)
            have i2 : (0 : Int) ≤ (q : Int) := by omega
            have i3 : (q : Int) < (m : Int) := by omega
            have i4 : decide ((q : Int) < 0) = false := decide_eq_false (by omega)
            clear e1 L2 hq
            generalize cs.getD k 0 = x at *
            generalize gs.getD k 0 = y at *
            generalize cs.getD q 0 = x2 at *
            generalize gs.getD q 0 = y2 at *
            by_cases cxy : y < x
            · have e2 : decide (y < x) = true := decide_eq_true cxy
              have L4 := L3 cxy
              clear L1 L3
              clear c4
              by_cases cyy : y < y2
              · rw [if_pos cyy] at L4
                have HS := Lib.hid L4
                clear L4
                go_wp2_with fail
                go_quiet (fail)
                go_wp2
                go_roundw
                case rel => exact ⟨k + 1, by omega, by go_num, by rw [HS.out], below_drewN hB _⟩
                case measure => simp [intOf]; omega
              · rw [if_neg cyy] at L4
                have HS := Lib.hid L4
                clear L4
                go_wp2_with fail
                go_quiet (fail)
                go_wp2
                go_roundw
                case rel => exact ⟨k + 1, by omega, by go_num, by rw [HS.out], below_drewN hB _⟩
                case measure => simp [intOf]; omega
            · have HS := Lib.hid (L1 cxy)
              have e2 : decide (y < x) = false := decide_eq_false cxy
              clear L1 L3
              go_wp2_with fail
              go_quiet (fail)
              go_wp2
              go_roundw
              case rel => exact ⟨k + 1, by omega, by go_num, by rw [HS.out], below_drewN hB _⟩
              case measure => simp [intOf]; omega
        · obtain rfl : k = m := by omega
          rw [HE1.out] at hbest
          subst hbest
          have O := HR.out.1.of_block hB
          have B := bel_tr HR.out.2 hB
          have q1 := HQ1.out
          have hd := O.cell (j := q) (by rw [fill_len, HL.out]; exact q1)
          have hf := O.frozen q
          have O2 := O.set_ q ((fillN cs j).getD q 0 + 1)
          rw [← HST.out] at O2
          have HS := Lib.hid (And.intro O2 (B.setCell (p := ⟨w.heap.size, q, none⟩) (Nat.le_refl _) (.int .i64 ((fillN cs j).getD q 0 + 1))))
          rw [HGS.out] at hd HS
          have fb := HFB.out
          generalize gs.getD q 0 = y at *
          have k0 : (0 : Int) ≤ (q : Int) := by omega
          have k1 : (q : Int) < (k : Int) := by omega
          have wz : IntKind.i64.wrap (y + 1) = y + 1 := by rw [IntKind.wrap_i64]; omega
          have jb := HJ.out
          have wj : IntKind.i64.wrap ((j : Int) + 1) = (j : Int) + 1 := by rw [IntKind.wrap_i64]; omega
          clear O O2 B HR hB jb
          go_wp2_with fail
          go_roundw
          case rel => exact ⟨j + 1, by have := HJ.out; omega, by go_num, HS.out⟩
          case measure => have := HJ.out; simp [intOf] <;> omega
    · obtain rfl : j = n.toNat := by omega
      have c0 : ¬ ((n.toNat : Nat) : Int) < n := by omega
      go_wp2_with fail
      go_ret
      exact ⟨_, rfl, HR.out⟩
set_option maxRecDepth 100000 in
set_option maxHeartbeats 4000000 in
/-- spec.copyInts -/
theorem scopyN (a : Option Addr) (ca : Nat) (zs : List Int) (w : World) (h : IsInts w a zs) (hn : zs.length ≤ 1048576) :
    Calls Try.prog 65 #[.slice a zs.length ca] w (OutI w zs) := by
  have HA := Lib.hid h
  clear h
  go_enter Try.func65, Try.ntmps65
  go_wp2_with (first | (at_builtin; refine wp_joinI rfl _ _ rfl rfl (OwnI.new (Below.refl w.heap.size w)) rfl rfl (ints_below HA.out ((Below.refl _ w).alloc (Nat.le_refl _) _)) (by show 0 + _ ≤ _; omega) (by simp) ?_; intro v1 w1 Q1 G1 n1; have B1 : Below w.heap.size w w1 := below_gv ((Below.refl w.heap.size w).alloc (Nat.le_refl _) _) G1 (fun q hq => (OwnI.new (Below.refl w.heap.size w)).grow q hq); rw [List.nil_append] at Q1; have HF := Lib.hid (And.intro Q1 B1); clear Q1 B1 G1 n1))
  go_ret
  exact ⟨_, rfl, HF.out⟩
theorem lossN_step {cs : List Int} {u q : Nat} (e : lastTo cs (lossN cs u) cs.length = (q : Int)) : lossN cs (u + 1) = (lossN cs u).set q ((lossN cs u).getD q 0 - 1) := by
  show stepL cs (lossN cs u) = _; unfold stepL; rw [e, show ((q : Int)).toNat = q by omega]
theorem loss_at {cs : List Int} (hc : ∀ i, i < cs.length → 0 ≤ cs.getD i 0) {u : Nat} (hu : (u : Int) < cs.sum) : ∃ q : Nat, lastTo cs (lossN cs u) cs.length = (q : Int) ∧ q < cs.length ∧ 0 < (lossN cs u).getD q 0 := by
  rcases last_is cs (lossN cs u) cs.length with ⟨_, no⟩ | ⟨q, e, hq, h0, _⟩
  · exfalso
    have F := (lossT_fair hc (u := u) (by omega)).1
    rw [← loss_fill hc u (by omega)] at F
    have := sum_leZ (lossN cs u) (List.replicate cs.length 0) (by rw [List.length_replicate, loss_fill hc u (by omega), lossT_len]) (fun i hi => by
      rw [loss_fill hc u (by omega), lossT_len] at hi
      have := no i hi
      rw [rep_get]; omega)
    rw [rep_sum] at this
    omega
  · exact ⟨q, e, hq, h0⟩
theorem lossN_len {cs : List Int} : ∀ u, (lossN cs u).length = cs.length := by
  intro u
  induction u with
  | zero => rfl
  | succ u ih => show (stepL _ _).length = _; unfold stepL; rw [List.length_set]; exact ih
theorem lossN_bd {cs : List Int} (hc : ∀ i, i < cs.length → 0 ≤ cs.getD i 0) {u : Nat} (hu : (u : Int) ≤ cs.sum) {i : Nat} (hi : i < cs.length) : 0 ≤ (lossN cs u).getD i 0 ∧ (lossN cs u).getD i 0 ≤ cs.getD i 0 := by
  rw [loss_fill hc u hu]; exact (lossT_fair hc hu).2.1 i hi
end Go.Proofs.Ytojkgabkiagjdac
