/- Duties, by the model. Condition: at most 1048576 weights. -/
import Derived.Test.YtigapnbpgbfbhabDutP
import Derived.Test.YtigapnbpgbfbhabAvgS
import Derived.Test.YtigapnbpgbfbhabGrA
import Derived.Deep.QuietTactic
import Derived.BigQuiet
namespace Go.Proofs.Ytigapnbpgbfbhab
open Go.RowKit
set_option linter.unusedSimpArgs false
set_option linter.unusedVariables false
theorem row_apartO {w w' : World} {g : Nat} {zs : List Int} {row : Option Nat} (h : Row w g zs) (hG : w.grownBy w' row) (hne : some g ≠ row) : Row w' g zs :=
  World.rowIs.of_block h (hG.block g (World.rowIs.lt h) hne)
/-- what has been laid behind the first m weights -/
def dtl (b m : Nat) : List Int := if b < m then [(b : Int)] else []
set_option maxRecDepth 100000 in
set_option maxHeartbeats 8000000 in
/-- spec.DutyOrder -/
theorem sDuty (n : Int) (a : Option Addr) (cap : Nat) (ws : List Int) (w : World) (h : IsInts w a ws) (hn : ws.length ≤ 1048576) :
    Calls Try.prog 17 #[.int .i64 n, .slice a ws.length cap] w (OutI w (duV n ws)) := by
  obtain ⟨i0, hi0, hz0, hz1, hz2⟩ := info_parts infoInt
  have CS := svalidSplit n a cap ws w h hn
  cases hcs : csB n ws with
  | false =>
    rw [hcs] at CS
    rw [duV_no hcs]
    clear hcs h
    go_enter Try.func17, Try.ntmps17
    go_wp2_with fail
    refine CS.mono ?_
    rintro e w' ⟨rfl, rfl⟩
    go_wp2_with fail
    go_ret
    exact outI_nil (Below.refl _ _)
  | true =>
  rw [hcs] at CS
  rw [duV_yes hcs]
  obtain ⟨⟨n0, n1⟩, hv⟩ := cs_yes hcs
  obtain ⟨N, hN⟩ : ∃ N : Nat, n = (N : Int) := ⟨n.toNat, by omega⟩
  subst hN
  rw [show ((N : Int)).toNat = N from by omega]
  have hmk2 := run_make_row' (P := Try.prog) 23 3 (.int .i64 0) 8 Try.underlying23 infoInt rfl .i64 .i64 ws.length (by omega) (by omega)
  have l1 := ws_ne hv
  have HV := Lib.hid hv
  have H0 := Lib.hid h
  have hO := OwnI.new (Below.refl w.heap.size w)
  obtain ⟨wa, hwa⟩ : ∃ wa, w.alloc (.cells #[] 3) = wa := ⟨_, rfl⟩
  have hBa : Below w.heap.size w wa := by rw [← hwa]; exact (Below.refl w.heap.size w).alloc (Nat.le_refl _) _
  have hsa : wa.heap.size = w.heap.size + 1 := by rw [← hwa]; simp
  rw [hwa] at hO
  have hBb := (Below.refl wa.heap.size wa).alloc (Nat.le_refl _) (.cells (madeCells #[.int .i64 0] ws.length) 3)
  have hG : Row (wa.alloc (.cells (madeCells #[.int .i64 0] ws.length) 3)) wa.heap.size (avgTo 2 ws 0) := by
    unfold Row
    rw [avgTo_len]
    refine (World.rowIs_made wa (.int .i64 0) ws.length _).congr (fun i hi => ?_)
    show Value.int .i64 0 = .int .i64 ((List.replicate ws.length (0 : Int)).getD i 0)
    rw [repl_get]
  obtain ⟨wb, hwb⟩ : ∃ wb, wa.alloc (.cells (madeCells #[.int .i64 0] ws.length) 3) = wb := ⟨_, rfl⟩
  rw [hwb] at hG hBb
  obtain ⟨g2, hg2⟩ : ∃ g2, w.heap.size + 1 = g2 := ⟨_, rfl⟩
  rw [hg2] at hsa
  have HSA := Lib.hid hsa
  have hsb : g2 < wb.heap.size := by rw [← hwb, ← hsa]; simp
  rw [hsa] at hG
  have HO := Lib.hid (hO.of_block hBb)
  have HG := Lib.hid hG
  have HB := Lib.hid (bel_tr hBa hBb)
  have HWA := Lib.hid hwa
  have HWB := Lib.hid hwb
  have HGE := Lib.hid hg2
  have hw2 : w.heap.size ≠ g2 := by omega
  clear hv hcs h hO hG hBa hBb hwa hwb hsa hg2
  go_enter Try.func17, Try.ntmps17
  go_wp2_with fail
  refine CS.mono ?_
  rintro e w' ⟨rfl, rfl⟩
  go_wp2_with fail
  clear hmk2
  rw [HWA.out, HWB.out, HGE.out]
  go_loopw [5, 6, 7] (fun v dv l wr => ∃ (d gd : Nat), d ≤ N ∧ l = .int .i64 ((d : Int) + 1) ∧ dv = .slice (some ⟨gd, 0, none⟩) ws.length ws.length ∧ OwnI wr w.heap.size v (dutF ws d) ∧ Hid (Row wr gd (avgTo 2 ws d) ∧ v.ownBlock ≠ some gd ∧ Below w.heap.size w wr ∧ gd < wr.heap.size)) (fun _ _ l _ => N + 1 - (intOf l).toNat)
  case atStart => exact ⟨0, g2, Nat.zero_le _, rfl, rfl, HO.out, HG.out, (fun e => hw2 (Option.some.inj e)), HB.out, hsb⟩
  case round =>
    clear HO HG HB
    obtain ⟨d, gd, hd, rfl, rfl, hO, HR⟩ := hrel
    by_cases hdn : d < N
    · have hcs : csB ((d : Int) + 1) ws = true := by rw [cs_is (by omega)]; exact HV.out
      have CB := sbyAvg 2 ((d : Int) + 1) a cap ws wr (ints_below H0.out HR.out.2.2.1) hn (by omega) hcs
      rw [show sa 2 ((d : Int) + 1) ws = avgTo 2 ws (d + 1) from by unfold sa; rw [show ((d : Int) + 1).toNat = d + 1 from by omega]] at CB
      have HO := Lib.hid hO
      have d1 : (d : Int) + 1 ≤ (N : Int) := by omega
      have e1 : decide ((d : Int) + 1 ≤ (N : Int)) = true := decide_eq_true d1
      clear hO hcs
      go_wp2_with fail
      refine CB.mono ?_
      rintro e w2 ⟨gq, rfl, hgq, hrq, C⟩
      have lgq := World.rowIs.lt hrq
      have HI0 : Hid (Row w2 gd (avgTo 2 ws d) ∧ Row w2 gq (avgTo 2 ws (d + 1)) ∧ u5.ownBlock ≠ some gd ∧ u5.ownBlock ≠ some gq ∧ Below w.heap.size w w2 ∧ gd < w2.heap.size ∧ gq < w2.heap.size) := ⟨row_keep HR.out.1 C, hrq, HR.out.2.1, (fun e => by have := (World.ownsRow.lt HO.out gq e).2; omega), bel_tr HR.out.2.2.1 C, by have := C.size; have := HR.out.2.2.2; omega, lgq⟩
      have HO1 := Lib.hid (HO.out.of_block C)
      clear hrq C CB HR HO
      go_wp2_with fail
      go_loopw [5, 9] (fun v i wi => ∃ m : Nat, m ≤ ws.length ∧ i = .int .i64 m ∧ OwnI wi w.heap.size v (dutF ws d ++ dtl (dpk ws d) m) ∧ Hid (Row wi gd (avgTo 2 ws d) ∧ Row wi gq (avgTo 2 ws (d + 1)) ∧ v.ownBlock ≠ some gd ∧ v.ownBlock ≠ some gq ∧ Below w.heap.size w wi ∧ gd < wi.heap.size ∧ gq < wi.heap.size)) (fun _ i _ => ws.length - (intOf i).toNat)
      case atStart => exact ⟨0, Nat.zero_le _, rfl, by rw [show dtl (dpk ws d) 0 = [] from rfl, List.append_nil]; exact HO1.out, HI0.out⟩
      case round =>
        clear HO1 HI0
        obtain ⟨m, hm, rfl, hO2, HI⟩ := hrel
        by_cases hlm : m < ws.length
        · have c1 := World.rowIs.cell HI.out.2.1 (i := m) (by rw [avgTo_len]; exact hlm)
          have c2 := World.rowIs.cell HI.out.1 (i := m) (by rw [avgTo_len]; exact hlm)
          have hnx := avg_next l1 d m
          have HD := Lib.hid HI.out.1
          have HE := Lib.hid HI.out.2.1
          have hab := (avg_is HV.out (step := 2) (by omega) d (by omega)).bd m hlm
          rw [hnx] at c1
          generalize (avgTo 2 ws d).getD m 0 = y at c1 c2 hab
          have m0 : (0 : Int) ≤ (m : Int) := by omega
          have m1 : (m : Int) < (ws.length : Int) := by omega
          have htl : (dtl (dpk ws d) m).length ≤ 1 := by unfold dtl; split <;> simp
          have HO2 := Lib.hid hO2
          clear hnx hO2
          by_cases p : m = dpk ws d
          · rw [if_pos p] at c1
            have HTL2 : Hid (dtl (dpk ws d) (m + 1) = dtl (dpk ws d) m ++ [(m : Int)]) := by show _ = _; unfold dtl; rw [if_pos (by omega), if_neg (by omega), p]; rfl
            have e2 : decide (y < y + 1) = true := decide_eq_true (by omega)
            have e3 : y < y + 1 := by omega
            generalize dtl (dpk ws d) m = tl at HTL2 htl HO2
            clear p
            go_wp2_with fail
            go_quiet (fail)
            have hO2 : OwnI (wr.drewN nq) w.heap.size u5 (dutF ws d ++ tl) := HO2.out
            have hsz : w.heap.size ≤ wr.heap.size := HI.out.2.2.2.2.1.size
            have hl2 : (dutF ws d ++ tl).length ≤ 1048576 := by rw [List.length_append, dutF_len]; omega
            go_wp2_with (first | (at_builtin; refine wpList_append_own_at _ rfl (.tmp 41) (.tmp 43) _ rfl w.heap.size 3 i0 (.int .i64 0) 1 8 Try.underlying23 hi0 hz0 hz1 hz2 rfl (by decide) _ _ _ rfl (hO2.alloc _) ⟨(wr.drewN nq).heap.size, 0, none⟩ 1 1 [.int .i64 (m : Int)] rfl rfl (cell_one_new _ _ _) (fun x hx => by simp at hx; subst hx; rfl) (by unfold maxLen; omega) (by omega) (by simp; omega) ?_; intro v3 w3 hown3 hgrow3 hnil3 hat3))
            have HX : Hid (OwnI w3 w.heap.size v3 (dutF ws d ++ tl ++ [(m : Int)]) ∧ Row w3 gd (avgTo 2 ws d) ∧ Row w3 gq (avgTo 2 ws (d + 1)) ∧ v3.ownBlock ≠ some gd ∧ v3.ownBlock ≠ some gq ∧ Below w.heap.size w w3 ∧ gd < w3.heap.size ∧ gq < w3.heap.size) := by
              have ga := (Below.refl wr.heap.size (wr.drewN nq)).alloc (Nat.le_refl _) (.cells #[.int .i64 (m : Int)] 3)
              have hgs0 := hgrow3.size
              rw [World.size_alloc] at hgs0
              have hgs : wr.heap.size + 1 ≤ w3.heap.size := hgs0
              have lgd := HI.out.2.2.2.2.2.1
              have lgq := HI.out.2.2.2.2.2.2
              refine ⟨OwnI.snoc hown3, ?_, ?_, ?_, ?_, (below_drewN HI.out.2.2.2.2.1 nq |>.alloc hsz _).grown hgrow3 (by simp; omega) HO2.out.grow, by omega, by omega⟩
              · exact row_apartO (row_keep (show Row (wr.drewN nq) gd _ from HI.out.1) ga) hgrow3 (fun e => HI.out.2.2.1 e.symm)
              · exact row_apartO (row_keep (show Row (wr.drewN nq) gq _ from HI.out.2.1) ga) hgrow3 (fun e => HI.out.2.2.2.1 e.symm)
              · rcases hat3 with e | e
                · rw [e]; exact HI.out.2.2.1
                · rw [e]; intro c; have c2 := Option.some.inj c; rw [World.size_alloc] at c2; have c3 : wr.heap.size + 1 = gd ∨ wr.heap.size = gd := .inl c2; omega
              · rcases hat3 with e | e
                · rw [e]; exact HI.out.2.2.2.1
                · rw [e]; intro c; have c2 := Option.some.inj c; rw [World.size_alloc] at c2; have c3 : wr.heap.size + 1 = gq := c2; omega
            clear hO2 hown3 hgrow3 hnil3 hat3
            go_roundw
            case rel => exact ⟨m + 1, by omega, by go_num, by rw [HTL2.out, ← List.append_assoc]; exact HX.out.1, HX.out.2⟩
            case measure => simp [intOf]; omega
          · rw [if_neg p, Int.add_zero] at c1
            have HTL2 : Hid (dtl (dpk ws d) (m + 1) = dtl (dpk ws d) m) := by
              show _ = _; unfold dtl
              by_cases q : dpk ws d < m
              · rw [if_pos q, if_pos (by omega)]
              · rw [if_neg q, if_neg (by omega)]
            have e2 : decide (y < y) = false := decide_eq_false (by omega)
            clear p
            go_wp2_with fail
            go_quiet (fail)
            go_wp2_with fail
            go_roundw
            case rel => exact ⟨m + 1, by omega, by go_num, by rw [HTL2.out]; exact HO2.out, HD.out, HE.out, HI.out.2.2.1, HI.out.2.2.2.1, below_drewN HI.out.2.2.2.2.1 _, HI.out.2.2.2.2.2⟩
            case measure => simp [intOf]; omega
        · have HX : Hid (OwnI wr w.heap.size u5 (dutF ws (d + 1)) ∧ Hid (Row wr gq (avgTo 2 ws (d + 1)) ∧ u5.ownBlock ≠ some gq ∧ Below w.heap.size w wr ∧ gq < wr.heap.size)) := by
            refine ⟨?_, HI.out.2.1, HI.out.2.2.2.1, HI.out.2.2.2.2.1, HI.out.2.2.2.2.2.2⟩
            rw [dutF_succ]
            have := hO2
            rw [show dtl (dpk ws d) m = [(dpk ws d : Int)] from if_pos (by have := dpk_lt l1 d; omega)] at this
            exact this
          have wz : IntKind.i64.wrap ((d : Int) + 1 + 1) = (d : Int) + 1 + 1 := by rw [IntKind.wrap_i64]; omega
          clear hO2 HI
          go_wp2_with fail
          go_roundw
          case rel => exact ⟨d + 1, gq, by omega, by go_num, rfl, HX.out⟩
          case measure => simp only [intOf]; omega
    · have hdd : d = N := by omega
      have e1 : decide ((d : Int) + 1 ≤ (N : Int)) = false := decide_eq_false (by omega)
      have e2 : ¬ (d : Int) + 1 ≤ (N : Int) := by omega
      have HX : Hid (OwnI wr w.heap.size u5 (dutF ws N) ∧ Below w.heap.size w wr) := ⟨by rw [← hdd]; exact hO, HR.out.2.2.1⟩
      clear hO HR
      go_wp2_with fail
      go_ret
      exact ⟨_, rfl, HX.out⟩
end Go.Proofs.Ytigapnbpgbfbhab
