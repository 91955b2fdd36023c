/- Claims by the program: valid ones, equal gains, equal losses. Condition: at most 1048576 numbers. -/
import Derived.Test.YtojkgabkiagjdacClmP
import Derived.Test.YtojkgabkiagjdacOwnZ
import Derived.Test.YtojkgabkiagjdacWeights
import Derived.Deep.QuietTactic
import Derived.BigQuiet
namespace Go.Proofs.Ytojkgabkiagjdac
open Go.RowKit
set_option linter.unusedSimpArgs false
set_option linter.unusedVariables false
/-- numbers that are there, opened -/
theorem ints_open {w : World} {a : Option Addr} {zs : List Int} (h : IsInts w a zs) (hl : 0 < zs.length) : ∃ g o, a = some ⟨g, o, none⟩ ∧ ∀ i, i < zs.length → w.cell? ⟨g, o + i, none⟩ = some (.int .i64 (zs.getD i 0)) := by
  rcases h with rfl | ⟨g, o, rfl, hc⟩
  · simp at hl
  · exact ⟨g, o, rfl, hc⟩
theorem cell_now {w wr : World} {g o i : Nat} {v : Value} (h : w.cell? ⟨g, o + i, none⟩ = some v) (hB : Below w.heap.size w wr) : wr.cell? ⟨g, o + i, none⟩ = some v :=
  (hB.cell (p := ⟨g, o + i, none⟩) (World.block_lt_of_cell? w _ h)).trans h
theorem cell_now0 {w wr : World} {g i : Nat} {v : Value} (h : w.cell? ⟨g, i, none⟩ = some v) (hB : Below w.heap.size w wr) : wr.cell? ⟨g, i, none⟩ = some v :=
  (hB.cell (p := ⟨g, i, none⟩) (World.block_lt_of_cell? w _ h)).trans h
theorem least_skip {cs gs : List Int} {k : Nat} (h : ¬ gs.getD k 0 < cs.getD k 0) : leastTo cs gs (k + 1) = leastTo cs gs k := if_neg (fun c => h c.1)
theorem least_first {cs gs : List Int} {k : Nat} (h : gs.getD k 0 < cs.getD k 0) (e : leastTo cs gs k = -1) : leastTo cs gs (k + 1) = (k : Int) := if_pos ⟨h, .inl (by omega)⟩
theorem least_next {cs gs : List Int} {k q : Nat} (h : gs.getD k 0 < cs.getD k 0) (e : leastTo cs gs k = (q : Int)) : leastTo cs gs (k + 1) = if gs.getD k 0 < gs.getD q 0 then (k : Int) else (q : Int) := by
  show ite _ _ _ = _
  rw [e, show ((q : Int)).toNat = q by omega]
  by_cases c : gs.getD k 0 < gs.getD q 0
  · rw [if_pos ⟨h, .inr c⟩, if_pos c]
  · rw [if_neg (fun x => c (x.2.resolve_left (by omega))), if_neg c]
theorem last_skip {cs gs : List Int} {k : Nat} (h : ¬ 0 < gs.getD k 0) : lastTo cs gs (k + 1) = lastTo cs gs k := if_neg (fun c => h c.1)
theorem last_first {cs gs : List Int} {k : Nat} (h : 0 < gs.getD k 0) (e : lastTo cs gs k = -1) : lastTo cs gs (k + 1) = (k : Int) := if_pos ⟨h, .inl (by omega)⟩
theorem last_next {cs gs : List Int} {k q : Nat} (h : 0 < gs.getD k 0) (e : lastTo cs gs k = (q : Int)) : lastTo cs gs (k + 1) = if cs.getD k 0 - gs.getD k 0 ≤ cs.getD q 0 - gs.getD q 0 then (k : Int) else (q : Int) := by
  show ite _ _ _ = _
  rw [e, show ((q : Int)).toNat = q by omega]
  by_cases c : cs.getD k 0 - gs.getD k 0 ≤ cs.getD q 0 - gs.getD q 0
  · rw [if_pos ⟨h, .inr c⟩, if_pos c]
  · rw [if_neg (fun x => c (x.2.resolve_left (by omega))), if_neg c]
/-- impl.ValidClaims -/
theorem iVC (n : Int) (a : Option Addr) (ca : Nat) (cs : List Int) (w : World) (h : IsInts w a cs) (hn : cs.length ≤ 1048576) :
    Calls Try.prog 23 #[.int .i64 n, .slice a cs.length ca] w fun e w' => e = .returned (.bool (vcB n cs)) ∧ w = w' := by
  by_cases h12 : 12 < cs.length
  · have e1 : (12 : Int) < (cs.length : Int) := by omega
    have HV := Lib.hid (vc_no (n := n) (cs := cs) (by omega))
    clear h12
    go_enter Try.func23, Try.ntmps23
    go_wp2_with fail
    go_ret
    exact ⟨ret_bool HV.out.symm, rfl⟩
  · have e1 : ¬ (12 : Int) < (cs.length : Int) := by omega
    have CA := iall a ca cs 500 w h hn
    cases hall : allB cs 500 with
    | false =>
      have HV := Lib.hid (vc_no (n := n) (cs := cs) (by rw [hall]; simp))
      rw [hall] at CA
      clear h12 hall h
      go_enter Try.func23, Try.ntmps23
      go_wp2_with fail
      refine CA.mono ?_
      rintro e w' ⟨rfl, rfl⟩
      go_wp2_with fail
      go_ret
      exact ⟨ret_bool HV.out.symm, rfl⟩
    | true =>
      rw [hall] at CA
      have CS := isum a ca cs w h hn (all_bd hall (by omega))
      have HV : Hid (vcB n cs = (decide (0 ≤ n) && decide (n ≤ cs.sum))) := by show _ = _; unfold vcB; rw [hall, decide_eq_true (by omega : cs.length ≤ 12)]; rfl
      clear h12 hall h
      generalize cs.sum = s at *
      by_cases hb : n < 0 ∨ s < n
      · have HF : Hid (vcB n cs = false) := by show _ = _; rw [HV.out]; rcases hb with hb | hb; rw [decide_eq_false (by omega)]; rfl; rw [decide_eq_false (by omega : ¬ n ≤ s)]; simp
        go_enter Try.func23, Try.ntmps23
        go_wp2_with fail
        refine CA.mono ?_
        rintro e w' ⟨rfl, rfl⟩
        go_wp2_with fail
        refine CS.mono ?_
        rintro e w' ⟨rfl, rfl⟩
        go_wp2_with fail
        refine (iwithin_no n s _ hb).mono ?_
        rintro e w' ⟨rfl, rfl⟩
        go_wp2_with fail
        go_ret
        exact ⟨ret_bool HF.out.symm, rfl⟩
      · have HF : Hid (vcB n cs = true) := by show _ = _; rw [HV.out, decide_eq_true (by omega), decide_eq_true (by omega)]; rfl
        have n0 : 0 ≤ n := by omega
        have n1 : n ≤ s := by omega
        clear hb
        go_enter Try.func23, Try.ntmps23
        go_wp2_with fail
        refine CA.mono ?_
        rintro e w' ⟨rfl, rfl⟩
        go_wp2_with fail
        refine CS.mono ?_
        rintro e w' ⟨rfl, rfl⟩
        go_wp2_with fail
        refine (iwithin_yes n s _ n0 n1).mono ?_
        rintro e w' ⟨rfl, rfl⟩
        go_wp2_with fail
        go_ret
        exact ⟨ret_bool HF.out.symm, rfl⟩
set_option maxRecDepth 100000 in
set_option maxHeartbeats 4000000 in
/-- impl.leastUnmet -/
theorem iLeast (a b : Option Addr) (ca cb m : Nat) (cs gs : List Int) (w : World) (ha : IsInts w a cs) (hb : IsInts w b gs) (lc : cs.length = m) (lg : gs.length = m) (hn : m ≤ 1048576) :
    Calls Try.prog 56 #[.slice a m ca, .slice b m cb] w fun e w' => e = .returned (.int .i64 (leastTo cs gs m)) ∧ Below w.heap.size w w' := by
  by_cases m0 : m = 0
  · subst m0
    clear lc lg ha hb
    go_enter Try.func56, Try.ntmps56
    go_wp2_with fail
    refine wp_loop_rounds 1 ?_
    rw [rounds_succ]
    go_wp2_with fail
    go_ret
    exact ⟨rfl, Below.refl _ _⟩
  · obtain ⟨g, o, rfl, hc⟩ := ints_open ha (by omega)
    obtain ⟨g2, o2, rfl, hd⟩ := ints_open hb (by omega)
    rw [lc] at hc
    rw [lg] at hd
    have HC := Lib.hid hc
    have HD := Lib.hid hd
    have HX : Hid (∀ i, i < m → True) := fun _ _ => trivial
    clear hc hd lc lg ha hb m0
    go_enter Try.func56, Try.ntmps56
    go_wp2_with fail
    go_loopw [5, 9] (fun b i wr => ∃ k : Nat, k ≤ m ∧ i = .int .i64 k ∧ b = .int .i64 (leastTo cs gs k) ∧ Below w.heap.size w wr) (fun _ i _ => m - (intOf i).toNat)
    case atStart => exact ⟨0, Nat.zero_le _, rfl, rfl, Below.refl _ _⟩
    case round =>
      obtain ⟨k, hk, rfl, hbest, hB⟩ := hrel
      by_cases hlt : k < m
      · have c1 := cell_now (HC.out k hlt) hB
        have c2 := cell_now (HD.out k hlt) hB
        have i0 : (0 : Int) ≤ (k : Int) := by omega
        have i1 : (k : Int) < (m : Int) := by omega
        have L1 := @least_skip cs gs k
        have L2 := @least_first cs gs k
        have bx := HX.out k hlt
        rcases least_bd cs gs k with e1 | ⟨q, e1, hq⟩
        · rw [e1] at hbest
          subst hbest
          have L2' := fun h => L2 h e1
          rw [e1] at L1
          clear e1 L2
          generalize cs.getD k 0 = x at *
          generalize gs.getD k 0 = y at *
          by_cases cxy : y < x
          · have HS := Lib.hid (L2' cxy)
            have e2 : decide (y < x) = true := decide_eq_true cxy
            clear L1 L2'
            go_wp2_with fail
            go_quiet (fail)
            go_wp2
            go_roundw
            case rel => exact ⟨k + 1, by omega, by go_num, by rw [HS.out], below_drewN hB _⟩
            case measure => simp [intOf]; omega
          · have HS := Lib.hid (L1 cxy)
            have e2 : decide (y < x) = false := decide_eq_false cxy
            clear L1 L2'
            go_wp2_with fail
            go_quiet (fail)
            go_wp2
            go_roundw
            case rel => exact ⟨k + 1, by omega, by go_num, by rw [HS.out], below_drewN hB _⟩
            case measure => simp [intOf]; omega
        · rw [e1] at hbest
          subst hbest
          have L3 := fun h => least_next (cs := cs) (gs := gs) (k := k) (q := q) h e1
          rw [e1] at L1
          have c3 := cell_now (HD.out q (by omega)) hB
          have c4 := cell_now (HC.out q (by omega)) hB
          have by_ := HX.out q (by omega)
          have i2 : (0 : Int) ≤ (q : Int) := by omega
          have i3 : (q : Int) < (m : Int) := by omega
          have i4 : decide ((q : Int) < 0) = false := decide_eq_false (by omega)
          clear e1 L2 hq
          generalize cs.getD k 0 = x at *
          generalize gs.getD k 0 = y at *
          generalize cs.getD q 0 = x2 at *
          generalize gs.getD q 0 = y2 at *
          by_cases cxy : y < x
          · have e2 : decide (y < x) = true := decide_eq_true cxy
            have L4 := L3 cxy
            clear L1 L3
            clear c4
            by_cases cyy : y < y2
            · rw [if_pos cyy] at L4
              have HS := Lib.hid L4
              clear L4
              go_wp2_with fail
              go_quiet (fail)
              go_wp2
              go_roundw
              case rel => exact ⟨k + 1, by omega, by go_num, by rw [HS.out], below_drewN hB _⟩
              case measure => simp [intOf]; omega
            · rw [if_neg cyy] at L4
              have HS := Lib.hid L4
              clear L4
              go_wp2_with fail
              go_quiet (fail)
              go_wp2
              go_roundw
              case rel => exact ⟨k + 1, by omega, by go_num, by rw [HS.out], below_drewN hB _⟩
              case measure => simp [intOf]; omega
          · have HS := Lib.hid (L1 cxy)
            have e2 : decide (y < x) = false := decide_eq_false cxy
            clear L1 L3
            go_wp2_with fail
            go_quiet (fail)
            go_wp2
            go_roundw
            case rel => exact ⟨k + 1, by omega, by go_num, by rw [HS.out], below_drewN hB _⟩
            case measure => simp [intOf]; omega
      · obtain rfl : k = m := by omega
        subst hbest
        go_wp2_with fail
        go_ret
        exact ⟨rfl, hB⟩
set_option maxRecDepth 100000 in
set_option maxHeartbeats 4000000 in
/-- impl.EqualGains -/
theorem iGains (n : Int) (a : Option Addr) (ca : Nat) (cs : List Int) (w : World) (h : IsInts w a cs) (hn : cs.length ≤ 1048576) :
    Calls Try.prog 24 #[.int .i64 n, .slice a cs.length ca] w (OutI w (gainV n cs)) := by
  have CV := iVC n a ca cs w h hn
  cases hv : vcB n cs with
  | false =>
    rw [gain_no hv]
    rw [hv] at CV
    clear hv h
    go_enter Try.func24, Try.ntmps24
    go_wp2_with fail
    refine CV.mono ?_
    rintro e w' ⟨rfl, rfl⟩
    go_wp2_with fail
    go_ret
    exact outI_nil (Below.refl _ _)
  | true =>
  rw [gain_yes hv]
  rw [hv] at CV
  obtain ⟨v1, v2, v3, v4⟩ := vc_iff.1 hv
  have hs := vc_bd v1 v2
  have HN := Lib.hid (vc_nn hv)
  have HV := Lib.hid v4
  have HA := Lib.hid h
  obtain ⟨m, hm⟩ : ∃ m, cs.length = m := ⟨_, rfl⟩
  have hmk := run_make_row' (P := Try.prog) 23 3 (.int .i64 0) 8 Try.underlying23 infoInt rfl .i64 .i64 m (by omega) (by omega)
  have hM := OwnI.made (Below.refl w.heap.size w) m (by omega)
  have hB2 := (Below.refl w.heap.size w).alloc (Nat.le_refl _) (.cells (madeCells #[.int .i64 0] m) 3)
  rw [show List.replicate m (0 : Int) = fillN cs 0 from by rw [← hm]; rfl] at hM
  have HM := Lib.hid (And.intro hM hB2)
  have HL := Lib.hid hm
  rw [hm] at CV ⊢
  have m12 : m ≤ 12 := by omega
  have s1 : n ≤ 6000 := by omega
  clear hM hB2 hm hv v1 v2 v4 h hn hs
  go_enter Try.func24, Try.ntmps24
  go_wp2_with fail
  refine CV.mono ?_
  rintro e w' ⟨rfl, rfl⟩
  go_wp2_with fail
  clear hmk CV
  go_loopw [6] (fun l wr => ∃ j : Nat, j ≤ n.toNat ∧ l = .int .i64 (n - j) ∧ Hid (OwnI wr w.heap.size (.slice (some ⟨w.heap.size, 0, none⟩) m m) (fillN cs j) ∧ Below w.heap.size w wr)) (fun l _ => (intOf l).toNat)
  case atStart => exact ⟨0, Nat.zero_le _, by go_num, HM.out⟩
  case round =>
    clear HM
    obtain ⟨j, hj, rfl, HR⟩ := hrel
    by_cases hlt : j < n.toNat
    · have lf : (fillN cs j).length = m := by rw [fill_len, HL.out]
      have F := fill_fair HN.out j (by have := HV.out; omega)
      obtain ⟨q, e1, hq, q0, _⟩ := fair_at F (by have := HV.out; omega)
      have hq1 : q < m := by have := HL.out; omega
      have f0 := F.2.2.1 q hq
      have c0 : (j : Int) < n := by omega
      have HST : Hid (fillN cs (j + 1) = (fillN cs j).set q ((fillN cs j).getD q 0 + 1)) := by show stepG cs (fillN cs j) = _; unfold stepG; rw [e1, show ((q : Int)).toNat = q by omega]
      have CL := fun (W : World) (hW : Below wr.heap.size wr W) => iLeast a (some ⟨w.heap.size, 0, none⟩) ca m m cs (fillN cs j) W (ints_below HA.out (bel_tr HR.out.2 hW)) (ints_below HR.out.1.at_ hW) HL.out lf (by omega)
      rw [show leastTo cs (fillN cs j) m = (q : Int) from by rw [← HL.out]; exact e1] at CL
      have fb : (fillN cs j).getD q 0 ≤ 6000 := by
        have x1 := F.2.2.1 q hq
        have x2 := sum_leZ (((fillN cs j)).set q 0) (fillN cs j) (by rw [List.length_set]) (fun i hi => by
          rw [List.length_set] at hi
          rw [getD_setZ i _ (by omega)]
          split
          · rename_i c; rw [c]; exact x1.1
          · exact Int.le_refl _)
        have x3 := sum_setZ (fillN cs j) q 0 (by omega)
        have x4 := F.2.1
        have x5 : 0 ≤ (((fillN cs j)).set q 0).sum := by
          have := sum_leZ (List.replicate m 0) (((fillN cs j)).set q 0) (by rw [List.length_set, List.length_replicate, lf]) (fun i hi => by
            rw [List.length_replicate] at hi
            rw [rep_get, getD_setZ i _ (by omega)]
            split
            · exact Int.le_refl _
            · exact (F.2.2.1 i (by have := HL.out; omega)).1)
          rwa [rep_sum] at this
        omega
      have HCL := Lib.hid CL
      have HLF := Lib.hid lf
      have f1 := f0.1
      clear F e1 CL q0 f0 lf hq
      go_wp2_with fail
      refine (HCL.out _ (Below.refl _ _)).mono ?_
      rintro e w3 ⟨rfl, C⟩
      have O := HR.out.1.of_block C
      have B := bel_tr HR.out.2 C
      have hd := O.cell (j := q) (by rw [HLF.out]; exact hq1)
      have hf := O.frozen q
      have O2 := O.set_ q ((fillN cs j).getD q 0 + 1)
      rw [← HST.out] at O2
      have HS := Lib.hid (And.intro O2 (B.setCell (p := ⟨w.heap.size, q, none⟩) (Nat.le_refl _) (.int .i64 ((fillN cs j).getD q 0 + 1))))
      generalize (fillN cs j).getD q 0 = y at *
      have k0 : (0 : Int) ≤ (q : Int) := by omega
      have k1 : (q : Int) < (m : Int) := by omega
      have wz : IntKind.i64.wrap (y + 1) = y + 1 := by rw [IntKind.wrap_i64]; omega
      clear O O2 B HR C HCL
      go_wp2_with fail
      go_roundw
      case rel => exact ⟨j + 1, by omega, by go_num, HS.out⟩
      case measure => simp [intOf]; omega
    · obtain rfl : j = n.toNat := by omega
      go_wp2_with fail
      go_ret
      exact ⟨_, rfl, HR.out⟩
end Go.Proofs.Ytojkgabkiagjdac
