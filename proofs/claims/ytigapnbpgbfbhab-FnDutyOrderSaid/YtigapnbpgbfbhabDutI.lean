/- Duties, by the program. Condition: at most 1048576 weights. -/
import Derived.Test.YtigapnbpgbfbhabDutP
import Derived.Test.YtigapnbpgbfbhabAvg
import Derived.Test.YtigapnbpgbfbhabGrA
namespace Go.Proofs.Ytigapnbpgbfbhab
open Go.RowKit
set_option linter.unusedSimpArgs false
set_option linter.unusedVariables false
set_option maxRecDepth 100000 in
set_option maxHeartbeats 8000000 in
/-- impl.DutyOrder -/
theorem iDuty (n : Int) (a : Option Addr) (cap : Nat) (ws : List Int) (w : World) (h : IsInts w a ws) (hn : ws.length ≤ 1048576) :
    Calls Try.prog 15 #[.int .i64 n, .slice a ws.length cap] w (OutI w (duV n ws)) := by
  have CS := icanSplit n a cap ws w h hn
  cases hcs : csB n ws with
  | false =>
    rw [hcs] at CS
    rw [duV_no hcs]
    clear hcs h
    go_enter Try.func15, Try.ntmps15
    go_wp2_with fail
    refine CS.mono ?_
    rintro e w' ⟨rfl, rfl⟩
    go_wp2_with fail
    go_ret
    exact outI_nil (Below.refl _ _)
  | true =>
  rw [hcs] at CS
  rw [duV_yes hcs]
  obtain ⟨⟨n0, n1⟩, hv⟩ := cs_yes hcs
  obtain ⟨N, hN⟩ : ∃ N : Nat, n = (N : Int) := ⟨n.toNat, by omega⟩
  subst hN
  rw [show ((N : Int)).toNat = N from by omega]
  have hmk := run_make_row' (P := Try.prog) 23 3 (.int .i64 0) 8 Try.underlying23 infoInt rfl .i64 .i64 N (by omega) (by omega)
  have hmk2 := run_make_row' (P := Try.prog) 23 3 (.int .i64 0) 8 Try.underlying23 infoInt rfl .i64 .i64 ws.length (by omega) (by omega)
  have l1 := ws_ne hv
  have HV := Lib.hid hv
  have H0 := Lib.hid h
  have hO := OwnI.made (Below.refl w.heap.size w) N (by omega)
  obtain ⟨wa, hwa⟩ : ∃ wa, w.alloc (.cells (madeCells #[.int .i64 0] N) 3) = wa := ⟨_, rfl⟩
  have hBa : Below w.heap.size w wa := by rw [← hwa]; exact (Below.refl w.heap.size w).alloc (Nat.le_refl _) _
  have hsa : wa.heap.size = w.heap.size + 1 := by rw [← hwa]; simp
  rw [hwa] at hO
  have hG := OwnI.made (Below.refl wa.heap.size wa) ws.length hn
  have hBb := (Below.refl wa.heap.size wa).alloc (Nat.le_refl _) (.cells (madeCells #[.int .i64 0] ws.length) 3)
  obtain ⟨wb, hwb⟩ : ∃ wb, wa.alloc (.cells (madeCells #[.int .i64 0] ws.length) 3) = wb := ⟨_, rfl⟩
  rw [hwb] at hG hBb
  obtain ⟨g, hg⟩ : ∃ g, w.heap.size = g := ⟨_, rfl⟩
  obtain ⟨g2, hg2⟩ : ∃ g2, w.heap.size + 1 = g2 := ⟨_, rfl⟩
  rw [hg2] at hsa
  have HSA := Lib.hid hsa
  have HO := Lib.hid (hO.of_block hBb)
  have HG := Lib.hid (own_lower hG hBa.size)
  have HB := Lib.hid (bel_tr hBa hBb)
  have HWA := Lib.hid hwa
  have HWB := Lib.hid hwb
  have HGE := Lib.hid (And.intro hg hg2)
  have hgg : g < g2 := by omega
  have hgw : w.heap.size ≤ g := by omega
  clear hv hcs h hO hG hBa hBb hwa hwb hsa
  rw [HGE.out.1] at HO
  rw [HSA.out] at HG
  clear hg hg2
  go_enter Try.func15, Try.ntmps15
  go_wp2_with fail
  refine CS.mono ?_
  rintro e w' ⟨rfl, rfl⟩
  go_wp2_with fail
  clear hmk hmk2
  rw [HWA.out, HWB.out, HGE.out.2, HGE.out.1]
  go_loopw [20] (fun l wr => ∃ j : Nat, j ≤ N ∧ l = .int .i64 j ∧ Hid (OwnI wr g (.slice (some ⟨g, 0, none⟩) N N) (accTo (List.replicate N 0) (fun d => (dpk ws d : Int)) j) ∧ OwnI wr w.heap.size (.slice (some ⟨g2, 0, none⟩) ws.length ws.length) (avgTo 2 ws j) ∧ Below w.heap.size w wr)) (fun l _ => N - (intOf l).toNat)
  case atStart => exact ⟨0, Nat.zero_le _, rfl, by rw [accTo_zero]; exact HO.out, HG.out, HB.out⟩
  case round =>
    clear HO HG HB
    obtain ⟨j, hj, rfl, HR⟩ := hrel
    by_cases hjn : j < N
    · have A := avg_is HV.out (step := 2) (by omega) j (by omega)
      have hl := avgTo_len 2 ws j
      have hbd : ∀ i, i < ws.length → 0 ≤ (avgTo 2 ws j).getD i 0 ∧ (avgTo 2 ws j).getD i 0 ≤ 1000 := fun i hi => by have := A.bd i hi; omega
      have CH := ihigh a (some ⟨g2, 0, none⟩) cap ws.length 2 ws (avgTo 2 ws j) wr (ints_below H0.out HR.out.2.2) HR.out.2.1.at_ hl hn (by omega) (fun i hi => all_get HV.out hi) hbd l1
      have hb := dpk_lt l1 j
      have hy := hbd _ hb
      have HE := Lib.hid (avg_step (ws := ws) j)
      change Calls _ _ _ _ (fun e w' => e = .returned (.int .i64 (dpk ws j : Nat)) ∧ Below wr.heap.size wr w') at CH
      have HAC := Lib.hid (accTo_succ (cs := List.replicate N 0) (fun d => (dpk ws d : Int)) (m := j) (by rw [List.length_replicate]; exact hjn))
      have hrl : (List.replicate N (0 : Int)).length = N := List.length_replicate
      have hacl : (accTo (List.replicate N 0) (fun d => (dpk ws d : Int)) j).length = N := by rw [accTo_len]; exact hrl
      obtain ⟨G', hG'⟩ : ∃ G', avgTo 2 ws (j + 1) = G' := ⟨_, rfl⟩
      obtain ⟨A', hA'⟩ : ∃ A', accTo (List.replicate N 0) (fun d => (dpk ws d : Int)) (j + 1) = A' := ⟨_, rfl⟩
      rw [hG'] at HE
      rw [hA'] at HAC
      have HGA := Lib.hid (And.intro hG' hA')
      clear hG' hA' A hbd hrl
      generalize avgTo 2 ws j = G at HR HE hl hy CH
      generalize accTo (List.replicate N 0) (fun d => (dpk ws d : Int)) j = Ac at HR HAC hacl
      generalize dpk ws j = b at HE HAC hb hy CH
      have HL := Lib.hid (And.intro hl hacl)
      have j1 : (j : Int) < (N : Int) := by omega
      have j0 : (0 : Int) ≤ (j : Int) := by omega
      have b0 : (0 : Int) ≤ (b : Int) := by omega
      have b1 : (b : Int) < (ws.length : Int) := by omega
      clear hl hacl
      go_wp2_with fail
      refine CH.mono ?_
      rintro e w3 ⟨rfl, C⟩
      have O3 := HR.out.1.of_block C
      have G3 := HR.out.2.1.of_block C
      have hx := G3.cell (j := b) (by rw [HL.out.1]; exact hb)
      have hf := G3.frozen b
      have hx2 := (O3.far (g := g2) (j := b) (fun e => by have e2 : g = g2 := Option.some.inj e; omega) (.int .i64 (G.getD b 0 + 1))).cell (j := j) (by rw [HL.out.2]; exact hjn)
      have hf2 := (O3.far (g := g2) (j := b) (fun e => by have e2 : g = g2 := Option.some.inj e; omega) (.int .i64 (G.getD b 0 + 1))).frozen j
      have HS : Hid (OwnI ((w3.setCell ⟨g2, b, none⟩ (.int .i64 (G.getD b 0 + 1))).setCell ⟨g, j, none⟩ (.int .i64 (b : Int))) g (.slice (some ⟨g, 0, none⟩) N N) A' ∧ OwnI ((w3.setCell ⟨g2, b, none⟩ (.int .i64 (G.getD b 0 + 1))).setCell ⟨g, j, none⟩ (.int .i64 (b : Int))) w.heap.size (.slice (some ⟨g2, 0, none⟩) ws.length ws.length) G' ∧ Below w.heap.size w ((w3.setCell ⟨g2, b, none⟩ (.int .i64 (G.getD b 0 + 1))).setCell ⟨g, j, none⟩ (.int .i64 (b : Int)))) := by
        refine ⟨?_, ?_, ?_⟩
        · have := (O3.far (g := g2) (j := b) (fun e => by have e2 : g = g2 := Option.some.inj e; omega) (.int .i64 (G.getD b 0 + 1))).set_ j (b : Int)
          rw [HAC.out] at this
          exact this
        · have := (G3.set_ b (G.getD b 0 + 1)).far (g := g) (j := j) (fun e => by have e2 : g2 = g := Option.some.inj e; omega) (.int .i64 (b : Int))
          rw [← HE.out] at this
          exact this
        · exact ((bel_tr HR.out.2.2 C).setCell (p := ⟨g2, b, none⟩) (by show w.heap.size ≤ g2; omega) _).setCell (p := ⟨g, j, none⟩) hgw _
      generalize G.getD b 0 = y at hx hx2 hf2 hy HS
      generalize Ac.getD j 0 = y2 at hx2
      have wy : IntKind.i64.wrap (y + 1) = y + 1 := by rw [IntKind.wrap_i64]; omega
      clear O3 G3 C CH HE HAC
      go_wp2_with fail
      go_roundw
      case rel => exact ⟨j + 1, by omega, by go_num, by rw [HGA.out.1, HGA.out.2]; exact HS.out⟩
      case measure => simp [intOf]; omega
    · have hjj : j = N := by omega
      have HX : Hid (OwnI wr w.heap.size (.slice (some ⟨g, 0, none⟩) N N) (dutF ws N) ∧ Below w.heap.size w wr) := by
        have := HR.out.1
        rw [hjj, accTo_end _ (List.length_replicate)] at this
        exact ⟨own_lower this hgw, HR.out.2.2⟩
      clear HR
      go_wp2_with fail
      go_ret
      exact ⟨_, rfl, HX.out⟩
end Go.Proofs.Ytigapnbpgbfbhab
