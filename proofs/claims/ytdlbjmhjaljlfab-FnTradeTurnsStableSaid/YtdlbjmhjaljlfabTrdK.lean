/- impl.TradeTurns. Condition: at most 1048576 lists. -/
import Derived.Test.YtdlbjmhjaljlfabTrdJ
namespace Go.Proofs.Ytdlbjmhjaljlfab
open Go.RowKit
set_option linter.unusedSimpArgs false
set_option linter.unusedVariables false
theorem rep_set (k d : Nat) (a b : Int) : (List.replicate k a ++ List.replicate (d + 1) b).set k a = List.replicate (k + 1) a ++ List.replicate d b := by
  rw [List.set_append_right _ _ (by simp), List.length_replicate, Nat.sub_self, List.replicate_succ, List.set_cons_zero, List.replicate_succ', List.append_assoc]; rfl
theorem wish_len {rs : List (List Int)} (hw : wishB rs = true) : rs.length ≤ 8 := by
  unfold wishB at hw
  rw [Bool.and_eq_true, decide_eq_true_eq] at hw
  exact hw.1
theorem tr_no {rs : List (List Int)} (h : wishB rs = false) : tradeV rs = [] := by unfold tradeV; rw [h]; rfl
theorem tr_yes {rs : List (List Int)} (hw : wishB rs = true) {m : Nat} (h : ∀ j, j < rs.length → (gotK rs m).getD j 0 ≠ -1) : gotK rs m = tradeV rs := by
  unfold tradeV
  rw [if_pos hw]
  exact got_end hw ((cnt_zero _).2 (fun i hi => h i (by rw [(got_is hw m).1] at hi; exact hi)))
/-- the first one who is left goes next -/
theorem got_next {rs : List (List Int)} (hw : wishB rs = true) {m k : Nat} (hk : k < rs.length) (hno : ∀ j, j < k → (gotK rs m).getD j 0 ≠ -1) (h : (gotK rs m).getD k 0 = -1) :
    Lf rs (gotK rs m) k ∧ stepC rs (gotK rs m) k = gotK rs (m + 1) ∧ cntL (gotK rs (m + 1)) < cntL (gotK rs m) ∧ ∀ j, j < k → (gotK rs (m + 1)).getD j 0 ≠ -1 := by
  have hl := (got_is hw m).1
  have hf := fl_at (gotK rs m) k (by rw [hl]; exact hk) hno h
  have hL : Lf rs (gotK rs m) k := ⟨hk, h⟩
  have S := stepC_is hw hl hL
  rcases (got_is hw m).2.2 with ⟨_, z⟩ | ⟨_, e⟩
  · exact absurd h ((cnt_zero _).1 z k (by rw [hl]; exact hk))
  · rw [hf] at e
    refine ⟨hL, e.symm, by rw [e]; exact S.cnt, fun j hj => ?_⟩
    rw [e, S.keep j (by omega) (hno j hj)]
    exact hno j hj
set_option maxRecDepth 100000 in
set_option maxHeartbeats 8000000 in
theorem iTrade (a : Option Addr) (ca : Nat) (rs : List (List Int)) (w : World) (h : IsRows w a rs) (hn : rs.length ≤ 1048576) :
    Calls Try.prog 16 #[.slice a rs.length ca] w (OutI w (tradeV rs)) := by
  have SV := iVW a ca rs w h hn
  cases hv : wishB rs with
  | false =>
    rw [hv] at SV
    rw [tr_no hv]
    clear h hv
    go_enter Try.func16, Try.ntmps16
    go_wp2_with fail
    refine SV.mono ?_
    rintro e w1 ⟨rfl, rfl⟩
    go_wp2_with fail
    go_ret
    exact outI_nil (Below.refl _ _)
  | true =>
    rw [hv] at SV
    have HW := Lib.hid hv
    have HA := Lib.hid h
    have h8 := wish_len hv
    have hmk := run_make_row' (P := Try.prog) 40 3 (.int .i64 0) 8 Try.underlying40 infoInt rfl .i64 .i64 rs.length (by omega) (by omega)
    have HI : Hid (OwnI (w.alloc (.cells (madeCells #[.int .i64 0] rs.length) 3)) w.heap.size (.slice (some ⟨w.heap.size, 0, none⟩) rs.length rs.length) (List.replicate 0 (-1) ++ List.replicate rs.length 0) ∧ Below w.heap.size w (w.alloc (.cells (madeCells #[.int .i64 0] rs.length) 3))) := ⟨OwnI.made (Below.refl _ _) rs.length hn, (Below.refl _ _).alloc (Nat.le_refl _) _⟩
    clear h hv
    go_enter Try.func16, Try.ntmps16
    go_wp2_with fail
    refine SV.mono ?_
    rintro e w1 ⟨rfl, rfl⟩
    clear SV
    go_wp2_with fail
    clear hmk
    go_loopw [14] (fun i wr => ∃ k d : Nat, k + d = rs.length ∧ i = .int .i64 k ∧ Hid (OwnI wr w.heap.size (.slice (some ⟨w.heap.size, 0, none⟩) rs.length rs.length) (List.replicate k (-1) ++ List.replicate d 0) ∧ Below w.heap.size w wr)) (fun i _ => rs.length - (intOf i).toNat)
    case atStart => exact ⟨0, rs.length, by omega, rfl, HI⟩
    case round =>
      clear HI
      obtain ⟨k, d, hkd, rfl, HS⟩ := hrel
      by_cases hlt : k < rs.length
      · obtain ⟨d, rfl⟩ : ∃ d', d = d' + 1 := ⟨d - 1, by omega⟩
        have hz := HS.out.1.cell (j := k) (by rw [List.length_append, List.length_replicate, List.length_replicate]; omega)
        have hf := HS.out.1.frozen k
        have HN : Hid (OwnI (wr.setCell ⟨w.heap.size, k, none⟩ (.int .i64 (-1))) w.heap.size (.slice (some ⟨w.heap.size, 0, none⟩) rs.length rs.length) (List.replicate (k + 1) (-1) ++ List.replicate d 0) ∧ Below w.heap.size w (wr.setCell ⟨w.heap.size, k, none⟩ (.int .i64 (-1)))) := ⟨by
          have := HS.out.1.set_ k (-1)
          rw [rep_set] at this; exact this, HS.out.2.setCell (Nat.le_refl _) _⟩
        generalize (List.replicate k (-1) ++ List.replicate (d + 1) 0).getD k 0 = y at hz
        have hk1 : (k : Int) < (rs.length : Int) := by omega
        go_wp2_with fail
        go_roundw
        case rel => exact ⟨k + 1, d, by omega, by go_num, HN⟩
        case measure => simp [intOf]; omega
      · obtain rfl : k = rs.length := by omega
        obtain rfl : d = 0 := by omega
        obtain ⟨w4, h4⟩ : ∃ W, W = wr := ⟨_, rfl⟩
        subst h4
        have HG : Hid (OwnI w4 w.heap.size (.slice (some ⟨w.heap.size, 0, none⟩) rs.length rs.length) (gotK rs 0) ∧ Below w.heap.size w w4 ∧ ∀ j, j < 0 → (gotK rs 0).getD j 0 ≠ -1) := ⟨by have := HS.out.1; rw [List.replicate_zero, List.append_nil] at this; exact this, HS.out.2, fun j hj => absurd hj (Nat.not_lt_zero _)⟩
        clear HS hkd hlt
        go_wp2_with fail
        go_loopw [3, 23] (fun v i wr => ∃ k m : Nat, k ≤ rs.length ∧ i = .int .i64 k ∧ Hid (OwnI wr w.heap.size v (gotK rs m) ∧ Below w.heap.size w wr ∧ ∀ j, j < k → (gotK rs m).getD j 0 ≠ -1)) (fun _ i _ => rs.length - (intOf i).toNat)
        case atStart => exact ⟨0, 0, Nat.zero_le _, rfl, HG⟩
        case round =>
          clear HG
          obtain ⟨k, m0, hk, rfl, HS⟩ := hrel
          by_cases hlt : k < rs.length
          · obtain ⟨w5, h5⟩ : ∃ W, W = wr := ⟨_, rfl⟩
            subst h5
            have hk0 : (0 : Int) ≤ (k : Int) := by omega
            go_wp2_with fail
            go_loopw [3] (fun v wr => ∃ m : Nat, Hid (OwnI wr w.heap.size v (gotK rs m) ∧ Below w.heap.size w wr ∧ ∀ j, j < k → (gotK rs m).getD j 0 ≠ -1)) (fun v wr => cV v wr rs.length)
            case atStart => exact ⟨m0, HS⟩
            case round =>
              clear HS
              obtain ⟨m, HS⟩ := hrel
              obtain ⟨b, cp, rfl, _⟩ := HS.out.1.ints
              have hl := (got_is HW.out m).1
              obtain ⟨gb, rfl, lb⟩ := OwnI.form_ HS.out.1 (by omega)
              have hz := HS.out.1.cell (j := k) (by omega)
              have hk1 : (k : Int) < ((gotK rs m).length : Int) := by omega
              have hk2 : k < (gotK rs m).length := by omega
              by_cases c : (gotK rs m).getD k 0 = -1
              · obtain ⟨hL, hst, hc, hno⟩ := got_next HW.out hlt HS.out.2.2 c
                have CA := iAfter a (some ⟨gb, 0, none⟩) ca cp rs (gotK rs m) k wr (rows_below HA.out HS.out.2.1) HS.out.1.at_ HW.out hl hL
                rw [hst] at CA
                rw [c] at hz
                have m1 := cW_own HS.out.1
                rw [hl] at m1
                have HM := Lib.hid m1
                have HCA := Lib.hid CA
                have HC := Lib.hid hc
                have HNO := Lib.hid hno
                clear hL hst hc hno CA c m1 hl
                go_wp2_with fail
                refine HCA.out.mono ?_
                rintro e w6 ⟨v, rfl, O, C⟩
                have HN : Hid (OwnI w6 w.heap.size v (gotK rs (m + 1)) ∧ Below w.heap.size w w6 ∧ ∀ j, j < k → (gotK rs (m + 1)).getD j 0 ≠ -1) := ⟨own_lower O HS.out.2.1.size, bel_tr HS.out.2.1 C, HNO.out⟩
                have HM2 : Hid (cV v w6 rs.length < cW wr gb rs.length) := by
                  have hl2 := (got_is HW.out (m + 1)).1
                  obtain ⟨b2, c2, rfl, _⟩ := O.ints
                  obtain ⟨g2, rfl, _⟩ := OwnI.form_ O (by omega)
                  have m2 := cW_own O
                  rw [hl2] at m2
                  show cW w6 g2 rs.length < _
                  rw [m2, HM.out]; exact HC.out
                clear O C HCA
                go_wp2_with fail
                go_roundw
                case rel => exact ⟨m + 1, HN⟩
                case measure => show cV v w6 rs.length < cW wr gb rs.length; exact HM2.out
              · have HN : Hid (OwnI wr w.heap.size (.slice (some ⟨gb, 0, none⟩) (gotK rs m).length cp) (gotK rs m) ∧ Below w.heap.size w wr ∧ ∀ j, j < k + 1 → (gotK rs m).getD j 0 ≠ -1) := ⟨HS.out.1, HS.out.2.1, fun j hj => by
                  by_cases e : j = k
                  · subst e; exact c
                  · exact HS.out.2.2 j (by omega)⟩
                generalize (gotK rs m).getD k 0 = y at hz c
                have e1 : (y == -1) = false := by rw [beq_eq_false_iff_ne]; exact c
                clear c HS hl
                go_wp2_with fail
                go_roundw
                case rel => exact ⟨k + 1, m, by omega, by go_num, HN⟩
                case measure => simp [intOf]; omega
          · obtain rfl : k = rs.length := by omega
            have ht := tr_yes HW.out HS.out.2.2
            rw [ht] at HS
            go_wp2_with fail
            go_ret
            exact ⟨_, rfl, HS.out.1, HS.out.2.1⟩
end Go.Proofs.Ytdlbjmhjaljlfab
