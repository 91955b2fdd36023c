/- SplitByHighest and SplitByMiddle, spec's. Condition: at most 1048576 numbers. -/
import Derived.Test.YtigapnbpgbfbhabAvg
import Derived.Test.YtigapnbpgbfbhabRestS
namespace Go.Proofs.Ytigapnbpgbfbhab
open Go.RowKit

def okW (ws : List Int) (i : Nat) : Bool := decide (0 < ws.getD i 0)
theorem pickW_is (step : Int) (ws gs : List Int) (m : Nat) (h1 : ∀ i, i < m → 0 ≤ ws.getD i 0) (h2 : ∀ i, i < m → 0 < step * gs.getD i 0 + 1) :
    ∀ k, k ≤ m → (pickS (okW ws) (avgB step ws gs) k = -1 ∧ pickB (avgB step ws gs) k = 0 ∧ ∀ j, j < k → okW ws j = false) ∨ (pickS (okW ws) (avgB step ws gs) k = (pickB (avgB step ws gs) k : Nat) ∧ okW ws (pickB (avgB step ws gs) k) = true ∧ pickB (avgB step ws gs) k < k) := by
  refine pickS_is (okW ws) (avgB step ws gs) m (fun i b hi hb a1 a2 => ?_) (fun i b hi hb a1 => ?_)
  · unfold okW at a1 a2; unfold avgB
    simp only [decide_eq_true_eq, decide_eq_false_iff_not] at a1 a2 ⊢
    have e : ws.getD b 0 = 0 := by have := h1 b hb; omega
    rw [e, Int.zero_mul]
    exact Int.mul_pos a1 (h2 b hb)
  · unfold okW at a1; unfold avgB
    simp only [decide_eq_false_iff_not] at a1 ⊢
    have e : ws.getD i 0 = 0 := by have := h1 i hi; omega
    rw [e, Int.zero_mul]
    have := Int.mul_nonneg (h1 b hb) (Int.le_of_lt (h2 i hi))
    omega
theorem pickW_skip (step : Int) (ws gs : List Int) (k : Nat) (h : ¬ 0 < ws.getD k 0) : pickS (okW ws) (avgB step ws gs) (k + 1) = pickS (okW ws) (avgB step ws gs) k := by
  show (if okW ws k && _ then (k : Int) else pickS (okW ws) (avgB step ws gs) k) = _
  have : okW ws k = false := by unfold okW; exact decide_eq_false (by omega)
  rw [this]; simp
theorem pickW_first (step : Int) (ws gs : List Int) (k : Nat) (h : 0 < ws.getD k 0) (h1 : pickS (okW ws) (avgB step ws gs) k = -1) : pickS (okW ws) (avgB step ws gs) (k + 1) = k := by
  show (if okW ws k && (decide (pickS (okW ws) (avgB step ws gs) k < 0) || _) then (k : Int) else pickS (okW ws) (avgB step ws gs) k) = _
  have : okW ws k = true := by unfold okW; exact decide_eq_true h
  rw [this, h1]; simp
theorem pickW_next (step : Int) (ws gs : List Int) (k b : Nat) (h : 0 < ws.getD k 0) (h1 : pickS (okW ws) (avgB step ws gs) k = (b : Int)) : pickS (okW ws) (avgB step ws gs) (k + 1) = if ws.getD b 0 * (step * gs.getD k 0 + 1) < ws.getD k 0 * (step * gs.getD b 0 + 1) then (k : Int) else b := by
  show (if okW ws k && (decide (pickS (okW ws) (avgB step ws gs) k < 0) || avgB step ws gs k (pickS (okW ws) (avgB step ws gs) k).toNat) then (k : Int) else pickS (okW ws) (avgB step ws gs) k) = _
  have : okW ws k = true := by unfold okW; exact decide_eq_true h
  rw [this, h1]
  have e : decide ((b : Int) < 0) = false := by simp
  rw [e, Int.toNat_natCast]
  unfold avgB
  simp

set_option maxHeartbeats 2000000 in
theorem sbyAvg (step n : Int) (a : Option Addr) (cap : Nat) (ws : List Int) (w : World) (h : IsInts w a ws) (hn : ws.length ≤ 1048576) (hs : 1 ≤ step ∧ step ≤ 2) (hcs : csB n ws = true) :
    Calls Try.prog 49 #[.int .i64 n, .slice a ws.length cap, .int .i64 step, .int .i64 1] w (Divd ws.length (sa step n ws) w) := by
  obtain ⟨⟨n0, n1⟩, hv⟩ := cs_yes hcs
  rcases h with rfl | ⟨g, o, rfl, hc⟩
  · exact absurd (vw_is hv).2.2 (by simp)
  · have hmk := run_make_row' (P := Try.prog) 23 3 (.int .i64 0) 8 Try.underlying23 infoInt rfl .i64 .i64 ws.length (by omega) (by omega)
    have l1 := ws_ne hv
    have HV := Lib.hid hv
    have HK := Lib.hid hcs
    have HC := Lib.hid hc
    clear hv hcs hc
    go_enter Try.func49, Try.ntmps49
    go_wp2_with fail
    clear hmk
    go_loopw [10] (fun l wr => ∃ j : Nat, j ≤ n.toNat ∧ l = .int .i64 j ∧ Row wr w.heap.size (avgTo step ws j) ∧ Below w.heap.size w wr) (fun l _ => (n - intOf l).toNat)
    case atStart =>
      refine ⟨0, Nat.zero_le _, rfl, ?_, by go_grown⟩
      unfold Row
      rw [avgTo_len]
      refine (World.rowIs_made w (.int .i64 0) ws.length _).congr (fun i hi => ?_)
      show Value.int .i64 0 = .int .i64 ((List.replicate ws.length (0 : Int)).getD i 0)
      rw [List.getD_eq_getElem?_getD, List.getElem?_replicate]; split <;> rfl
    case round =>
      obtain ⟨j, hj, rfl, RG, hB⟩ := hrel
      by_cases hjn : (j : Int) < n
      · have A := avg_is HV.out hs j (by omega)
        obtain ⟨hb, hwb⟩ := avg_pos HV.out hs (by omega) A
        have hl := avgTo_len step ws j
        have e1 := avgTo_succ step ws j
        have hbd : ∀ i, i < ws.length → 0 ≤ (avgTo step ws j).getD i 0 ∧ (avgTo step ws j).getD i 0 ≤ 1000 := fun i hi => by have := A.bd i hi; omega
        obtain ⟨G', hG'⟩ : ∃ G', avgTo step ws (j + 1) = G' := ⟨_, rfl⟩
        rw [hG'] at e1
        have HG := Lib.hid hG'
        clear hG' A
        generalize avgTo step ws j = G at *
        have HP := Lib.hid (pickW_is step ws G ws.length (fun i hi => (all_get HV.out hi).1) (fun i hi => (fac_bd hs (hbd i hi) (by omega)).1))
        have hpk : pickS (okW ws) (avgB step ws G) ws.length = (pickB (avgB step ws G) ws.length : Nat) := by
          rcases HP.out ws.length (Nat.le_refl _) with ⟨_, b0, hno⟩ | ⟨h, _⟩
          · have := hno _ hb
            unfold okW at this
            simp only [decide_eq_false_iff_not] at this
            omega
          · exact h
        have HPK := Lib.hid hpk
        have HBD := Lib.hid hbd
        have HRG := Lib.hid RG
        have HB := Lib.hid hB
        have HE := Lib.hid e1
        clear hbd RG hB e1 hpk hwb
        go_wp2_with fail
        go_loopw [11, 12] (fun b i wi => ∃ k : Nat, k ≤ ws.length ∧ i = .int .i64 k ∧ b = .int .i64 (pickS (okW ws) (avgB step ws G) k) ∧ Below wr.heap.size wr wi) (fun _ i _ => ws.length - (intOf i).toNat)
        case atStart => exact ⟨0, Nat.zero_le _, rfl, rfl, Below.refl _ _⟩
        case round =>
          obtain ⟨k, hk, rfl, hbest, hBi⟩ := hrel
          by_cases hlt : k < ws.length
          · have hB2 := bel_tr HB.out hBi
            have c1 := (hB2.cell (p := ⟨g, o + k, none⟩) (World.block_lt_of_cell? w _ (HC.out k hlt))).trans (HC.out k hlt)
            have i0 : (0 : Int) ≤ (k : Int) := by omega
            have i1 : (k : Int) < (ws.length : Int) := by omega
            by_cases hd : 0 < ws.getD k 0
            · rcases HP.out k hk with ⟨p1, _, _⟩ | ⟨p1, p2, p3⟩
              · have HS := Lib.hid (pickW_first step ws G k hd p1)
                rw [p1] at hbest
                subst hbest
                clear p1 hB2
                generalize ws.getD k 0 = x at *
                go_wp2_with fail
                go_quiet (fail)
                go_wp2
                go_roundw
                case rel => exact ⟨k + 1, by omega, by go_num, by rw [HS.out], below_drewN hBi _⟩
                case measure => simp [intOf]; omega
              · have HS := Lib.hid (pickW_next step ws G k _ hd p1)
                rw [p1] at hbest
                subst hbest
                have hbk : pickB (avgB step ws G) k < ws.length := by omega
                have c2 := (hB2.cell (p := ⟨g, o + pickB (avgB step ws G) k, none⟩) (World.block_lt_of_cell? w _ (HC.out _ hbk))).trans (HC.out _ hbk)
                have c3 := World.rowIs.cell (row_keep HRG.out hBi) (i := k) (by omega)
                have c4 := World.rowIs.cell (row_keep HRG.out hBi) (i := pickB (avgB step ws G) k) (by omega)
                obtain ⟨p1, p2, p3, p4⟩ := fac_all (x := ws.getD k 0) hs (all_get HV.out hlt) (HBD.out _ hbk)
                obtain ⟨q1, q2, q3, q4⟩ := fac_all (x := ws.getD (pickB (avgB step ws G) k) 0) hs (all_get HV.out hbk) (HBD.out k hlt)
                have i2 : (0 : Int) ≤ (pickB (avgB step ws G) k : Int) := by omega
                have i3 : (pickB (avgB step ws G) k : Int) < (ws.length : Int) := by omega
                have i4 : decide ((pickB (avgB step ws G) k : Int) < 0) = false := decide_eq_false (by omega)
                clear hB2
                generalize pickB (avgB step ws G) k = b at *
                generalize ws.getD k 0 = x at *
                generalize ws.getD b 0 = y at *
                generalize G.getD k 0 = u at *
                generalize G.getD b 0 = v at *
                have t1 : IntKind.i64.wrap (step * v) = step * v := wrap_of (by omega)
                have t2 : IntKind.i64.wrap (step * u) = step * u := wrap_of (by omega)
                have t3 : IntKind.i64.wrap (step * v + 1) = step * v + 1 := wrap_of (by omega)
                have t4 : IntKind.i64.wrap (step * u + 1) = step * u + 1 := wrap_of (by omega)
                have t5 : IntKind.i64.wrap (x * (step * v + 1)) = x * (step * v + 1) := wrap_of (by omega)
                have t6 : IntKind.i64.wrap (y * (step * u + 1)) = y * (step * u + 1) := wrap_of (by omega)
                clear hs hl
                by_cases hxy : y * (step * u + 1) < x * (step * v + 1)
                · rw [if_pos hxy] at HS
                  go_wp2_with fail
                  go_quiet (fail)
                  go_wp2
                  go_roundw
                  case rel => exact ⟨k + 1, by omega, by go_num, by rw [HS.out], below_drewN hBi _⟩
                  case measure => simp [intOf]; omega
                · rw [if_neg hxy] at HS
                  go_wp2_with fail
                  go_quiet (fail)
                  go_wp2
                  go_roundw
                  case rel => exact ⟨k + 1, by omega, by go_num, by rw [HS.out], below_drewN hBi _⟩
                  case measure => simp [intOf]; omega
            · have hd2 : decide (0 < ws.getD k 0) = false := decide_eq_false hd
              have HS := Lib.hid (pickW_skip step ws G k hd)
              subst hbest
              clear hB2
              generalize ws.getD k 0 = x at *
              go_wp2_with fail
              go_quiet (fail)
              go_wp2
              go_roundw
              case rel => exact ⟨k + 1, by omega, by go_num, by rw [HS.out], below_drewN hBi _⟩
              case measure => simp [intOf]; omega
          · have ek : k = ws.length := by omega
            subst ek
            rw [HPK.out] at hbest
            subst hbest
            have hy := HBD.out _ hb
            clear HPK HP HBD
            have RG := row_keep HRG.out hBi
            have B4 := bel_tr HB.out hBi
            have E1 := HE.out
            generalize pickB (avgB step ws G) ws.length = b at *
            have hx := World.rowIs.cell RG (i := b) (by omega)
            have hf := World.rowIs.frozen RG b
            have i0 : (0 : Int) ≤ (b : Int) := by omega
            have i1 : (b : Int) < (ws.length : Int) := by omega
            have sG := row_set RG b (G.getD b 0 + 1) (by omega)
            rw [← E1] at sG
            have sB : Below w.heap.size w (wr.setCell ⟨w.heap.size, b, none⟩ (.int .i64 (G.getD b 0 + 1))) := B4.setCell (Nat.le_refl _) _
            have HS := Lib.hid (And.intro sG sB)
            clear sG sB RG B4 E1 HE HRG HB
            generalize G.getD b 0 = y at *
            go_wp2
            go_roundw
            case rel => exact ⟨j + 1, by omega, by go_num, by rw [HG.out]; exact HS.out.1, HS.out.2⟩
            case measure => simp [intOf]; omega
      · have e : j = n.toNat := by omega
        have HR := Lib.hid RG
        clear RG
        go_wp2
        go_ret
        exact ⟨w.heap.size, rfl, Nat.le_refl _, by unfold sa; rw [← e]; exact HR.out, hB⟩
theorem smiddle_no (n : Int) (a : Option Addr) (cap : Nat) (ws : List Int) (w : World) (h : IsInts w a ws) (hn : ws.length ≤ 1048576) (hcs : csB n ws = false) :
    Calls Try.prog 41 #[.int .i64 n, .slice a ws.length cap] w fun e w' => e = .returned (.slice none 0 0) ∧ w = w' := by
  go_enter Try.func41, Try.ntmps41
  go_wp2_with fail
  refine (svalidSplit n a cap ws _ h hn).mono ?_
  rintro e w' ⟨rfl, rfl⟩
  go_wp2_with fail
  go_ret
  exact ⟨rfl, rfl⟩
theorem smiddle (n : Int) (a : Option Addr) (cap : Nat) (ws : List Int) (w : World) (h : IsInts w a ws) (hn : ws.length ≤ 1048576) (hcs : csB n ws = true) :
    Calls Try.prog 41 #[.int .i64 n, .slice a ws.length cap] w (DivS ws.length (sa 2 n ws) w) := by
  have HC := Lib.hid hcs
  go_enter Try.func41, Try.ntmps41
  go_wp2_with fail
  refine (svalidSplit n a cap ws _ h hn).mono ?_
  rintro e w' ⟨rfl, rfl⟩
  go_wp2_with fail
  refine (sbyAvg 2 n a cap ws _ h hn (by omega) HC.out).mono ?_
  rintro e w' ⟨g, rfl, hg, hr, hB⟩
  go_wp2_with fail
  go_ret
  exact ⟨some ⟨g, 0, none⟩, ws.length, rfl, row_ints hr, hB⟩
end Go.Proofs.Ytigapnbpgbfbhab
