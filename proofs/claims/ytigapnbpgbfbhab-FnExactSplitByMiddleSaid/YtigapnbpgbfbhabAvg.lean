/- SplitByHighest and SplitByMiddle, impl's. Condition: at most 1048576 numbers. -/
import Derived.Test.YtigapnbpgbfbhabRest
namespace Go.Proofs.Ytigapnbpgbfbhab
open Go.RowKit

theorem fac_all {step x v : Int} (h : 1 ≤ step ∧ step ≤ 2) (hx : 0 ≤ x ∧ x ≤ 1000) (hv : 0 ≤ v ∧ v ≤ 1000) :
    0 ≤ step * v ∧ step * v ≤ 2000 ∧ 0 ≤ x * (step * v + 1) ∧ x * (step * v + 1) ≤ 2001000 := by
  have a := Int.mul_nonneg (a := step) (by omega) hv.1
  have b : step * v ≤ 2 * 1000 := Int.mul_le_mul h.2 hv.2 hv.1 (by omega)
  have c := Int.mul_nonneg (b := step * v + 1) hx.1 (by omega)
  have d : x * (step * v + 1) ≤ 1000 * 2001 := Int.mul_le_mul hx.2 (by omega) (by omega) (by omega)
  omega
theorem wrap_of {z : Int} (h : -2000000000 ≤ z ∧ z ≤ 2000000000) : IntKind.i64.wrap z = z := by rw [IntKind.wrap_i64]; omega

set_option maxHeartbeats 1000000 in
/-- impl.highestAverage -/
theorem ihigh (a b : Option Addr) (ca cb : Nat) (step : Int) (ws gs : List Int) (w : World) (ha : IsInts w a ws) (hb : IsInts w b gs) (hl : gs.length = ws.length) (hn : ws.length ≤ 1048576) (hs : 1 ≤ step ∧ step ≤ 2)
    (h1 : ∀ i, i < ws.length → 0 ≤ ws.getD i 0 ∧ ws.getD i 0 ≤ 1000) (h2 : ∀ i, i < ws.length → 0 ≤ gs.getD i 0 ∧ gs.getD i 0 ≤ 1000) (hz : 0 < ws.length) :
    Calls Try.prog 47 #[.slice a ws.length ca, .slice b ws.length cb, .int .i64 step] w fun e w' => e = .returned (.int .i64 (pickB (avgB step ws gs) ws.length : Nat)) ∧ Below w.heap.size w w' := by
  rcases ha with rfl | ⟨g, o, rfl, hc⟩
  · exact absurd hz (by simp)
  · rcases hb with rfl | ⟨g2, o2, rfl, hc2⟩
    · exact absurd hl (by simp; omega)
    · have HC := Lib.hid hc
      have HD := Lib.hid hc2
      have H1 := Lib.hid h1
      have H2 := Lib.hid h2
      clear hc hc2 h1 h2
      go_enter Try.func47, Try.ntmps47
      go_wp2_with fail
      go_loopw [7, 11] (fun b i wr => ∃ k : Nat, k ≤ ws.length ∧ i = .int .i64 k ∧ b = .int .i64 (pickB (avgB step ws gs) k : Nat) ∧ Below w.heap.size w wr) (fun _ i _ => ws.length - (intOf i).toNat)
      case atStart => exact ⟨0, Nat.zero_le _, rfl, rfl, Below.refl _ _⟩
      case round =>
        obtain ⟨k, hk, rfl, rfl, hB⟩ := hrel
        by_cases hlt : k < ws.length
        · have hb := pickB_at (avgB step ws gs) hlt
          have c1 := (hB.cell (p := ⟨g, o + k, none⟩) (World.block_lt_of_cell? w _ (HC.out k hlt))).trans (HC.out k hlt)
          have c2 := (hB.cell (p := ⟨g, o + pickB (avgB step ws gs) k, none⟩) (World.block_lt_of_cell? w _ (HC.out _ hb))).trans (HC.out _ hb)
          have c3 := (hB.cell (p := ⟨g2, o2 + k, none⟩) (World.block_lt_of_cell? w _ (HD.out k (by omega)))).trans (HD.out k (by omega))
          have c4 := (hB.cell (p := ⟨g2, o2 + pickB (avgB step ws gs) k, none⟩) (World.block_lt_of_cell? w _ (HD.out _ (by omega)))).trans (HD.out _ (by omega))
          have hsu := pickB_succ (avgB step ws gs) k
          have hm : avgB step ws gs k (pickB (avgB step ws gs) k) = decide (ws.getD k 0 * (step * gs.getD (pickB (avgB step ws gs) k) 0 + 1) > ws.getD (pickB (avgB step ws gs) k) 0 * (step * gs.getD k 0 + 1)) := rfl
          rw [hm] at hsu
          obtain ⟨p1, p2, p3, p4⟩ := fac_all (x := ws.getD k 0) hs (H1.out k hlt) (H2.out _ hb)
          obtain ⟨q1, q2, q3, q4⟩ := fac_all (x := ws.getD (pickB (avgB step ws gs) k) 0) hs (H1.out _ hb) (H2.out k hlt)
          clear hm
          generalize pickB (avgB step ws gs) k = b at *
          generalize ws.getD k 0 = x at *
          generalize ws.getD b 0 = y at *
          generalize gs.getD k 0 = u at *
          generalize gs.getD b 0 = v at *
          have t1 : IntKind.i64.wrap (step * v) = step * v := wrap_of (by omega)
          have t2 : IntKind.i64.wrap (step * u) = step * u := wrap_of (by omega)
          have t3 : IntKind.i64.wrap (step * v + 1) = step * v + 1 := wrap_of (by omega)
          have t4 : IntKind.i64.wrap (step * u + 1) = step * u + 1 := wrap_of (by omega)
          have t5 : IntKind.i64.wrap (x * (step * v + 1)) = x * (step * v + 1) := wrap_of (by omega)
          have t6 : IntKind.i64.wrap (y * (step * u + 1)) = y * (step * u + 1) := wrap_of (by omega)
          have i0 : (0 : Int) ≤ (k : Int) := by omega
          have i1 : (k : Int) < (ws.length : Int) := by omega
          have i2 : (0 : Int) ≤ (b : Int) := by omega
          have i3 : (b : Int) < (ws.length : Int) := by omega
          clear hl hs
          by_cases hxy : y * (step * u + 1) < x * (step * v + 1)
          · have hs' : pickB (avgB step ws gs) (k + 1) = k := by rw [hsu]; simp [hxy]
            have HS := Lib.hid hs'
            clear hsu hs'
            go_wp2_with fail
            go_quiet (fail)
            go_wp2
            go_roundw
            case rel => exact ⟨k + 1, by omega, by go_num, by rw [HS.out], below_drewN hB _⟩
            case measure => simp [intOf]; omega
          · have hs' : pickB (avgB step ws gs) (k + 1) = b := by rw [hsu, decide_eq_false (by omega)]; rfl
            have HS := Lib.hid hs'
            clear hsu hs'
            go_wp2_with fail
            go_quiet (fail)
            go_wp2
            go_roundw
            case rel => exact ⟨k + 1, by omega, by go_num, by rw [HS.out], below_drewN hB _⟩
            case measure => simp [intOf]; omega
        · have e : k = ws.length := by omega
          subst e
          go_wp2_with fail
          go_ret
          exact ⟨rfl, hB⟩

theorem iavg_no (step n : Int) (a : Option Addr) (cap : Nat) (ws : List Int) (w : World) (h : IsInts w a ws) (hn : ws.length ≤ 1048576) (hcs : csB n ws = false) :
    Calls Try.prog 50 #[.int .i64 n, .slice a ws.length cap, .int .i64 step] w fun e w' => e = .returned (.slice none 0 0) ∧ w = w' := by
  go_enter Try.func50, Try.ntmps50
  go_wp2_with fail
  refine (icanSplit n a cap ws _ h hn).mono ?_
  rintro e w' ⟨rfl, rfl⟩
  go_wp2_with fail
  go_ret
  exact ⟨rfl, rfl⟩
set_option maxHeartbeats 2000000 in
theorem iavg (step n : Int) (a : Option Addr) (cap : Nat) (ws : List Int) (w : World) (h : IsInts w a ws) (hn : ws.length ≤ 1048576) (hs : 1 ≤ step ∧ step ≤ 2) (hcs : csB n ws = true) :
    Calls Try.prog 50 #[.int .i64 n, .slice a ws.length cap, .int .i64 step] w (Divd ws.length (sa step n ws) w) := by
  obtain ⟨⟨n0, n1⟩, hv⟩ := cs_yes hcs
  have hmk := run_make_row' (P := Try.prog) 23 3 (.int .i64 0) 8 Try.underlying23 infoInt rfl .i64 .i64 ws.length (by omega) (by omega)
  have l1 := ws_ne hv
  have HV := Lib.hid hv
  have HK := Lib.hid hcs
  have H0 := Lib.hid h
  clear hv hcs h
  go_enter Try.func50, Try.ntmps50
  go_wp2_with fail
  refine (icanSplit n _ cap ws _ H0.out hn).mono ?_
  rintro e w' ⟨rfl, rfl⟩
  rw [HK.out]
  go_wp2_with fail
  clear hmk
  go_loopw [8] (fun l wr => ∃ j : Nat, j ≤ n.toNat ∧ l = .int .i64 (n - j) ∧ Row wr w.heap.size (avgTo step ws j) ∧ Below w.heap.size w wr) (fun l _ => (intOf l).toNat)
  case atStart =>
    refine ⟨0, Nat.zero_le _, by go_num, ?_, by go_grown⟩
    unfold Row
    rw [avgTo_len]
    refine (World.rowIs_made w (.int .i64 0) ws.length _).congr (fun i hi => ?_)
    show Value.int .i64 0 = .int .i64 ((List.replicate ws.length (0 : Int)).getD i 0)
    rw [List.getD_eq_getElem?_getD, List.getElem?_replicate]; split <;> rfl
  case round =>
    obtain ⟨j, hj, rfl, RG, hB⟩ := hrel
    by_cases hjn : (j : Int) < n
    · have A := avg_is HV.out hs j (by omega)
      obtain ⟨hb, _⟩ := avg_pos HV.out hs (by omega) A
      have hl := avgTo_len step ws j
      have e1 := avgTo_succ step ws j
      have hbd : ∀ i, i < ws.length → 0 ≤ (avgTo step ws j).getD i 0 ∧ (avgTo step ws j).getD i 0 ≤ 1000 := fun i hi => by have := A.bd i hi; omega
      obtain ⟨G', hG'⟩ : ∃ G', avgTo step ws (j + 1) = G' := ⟨_, rfl⟩
      rw [hG'] at e1
      have HG := Lib.hid hG'
      clear hG' A
      generalize avgTo step ws j = G at *
      have HBD := Lib.hid hbd
      have HRG := Lib.hid RG
      have HB := Lib.hid hB
      have HE := Lib.hid e1
      clear hbd RG hB e1
      go_wp2_with fail
      refine (ihigh _ _ _ _ step ws G _ (ints_below H0.out HB.out) (row_ints HRG.out) hl hn hs (fun i hi => all_get HV.out hi) HBD.out l1).mono ?_
      rintro e w3 ⟨rfl, B3⟩
      have RG := row_keep HRG.out B3
      have B4 := bel_tr HB.out B3
      have E1 := HE.out
      have hy := HBD.out _ hb
      generalize pickB (avgB step ws G) ws.length = b at *
      have hx := World.rowIs.cell RG (i := b) (by omega)
      have hf := World.rowIs.frozen RG b
      have i0 : (0 : Int) ≤ (b : Int) := by omega
      have i1 : (b : Int) < (ws.length : Int) := by omega
      have sG := row_set RG b (G.getD b 0 + 1) (by omega)
      rw [← E1] at sG
      have sB : Below w.heap.size w (w3.setCell ⟨w.heap.size, b, none⟩ (.int .i64 (G.getD b 0 + 1))) := B4.setCell (Nat.le_refl _) _
      have HS := Lib.hid (And.intro sG sB)
      clear sG sB RG B3 B4 E1 HE HRG HB
      generalize G.getD b 0 = y at *
      go_wp2
      go_roundw
      case rel => exact ⟨j + 1, by omega, by go_num, by rw [HG.out]; exact HS.out.1, HS.out.2⟩
      case measure => simp [intOf]; omega
    · have e : j = n.toNat := by omega
      subst e
      have e2 : ((n.toNat : Nat) : Int) = n := by omega
      have HR := Lib.hid RG
      clear RG
      rw [e2]
      go_wp2
      go_ret
      exact ⟨w.heap.size, rfl, Nat.le_refl _, HR.out, hB⟩
theorem imiddle_no (n : Int) (a : Option Addr) (cap : Nat) (ws : List Int) (w : World) (h : IsInts w a ws) (hn : ws.length ≤ 1048576) (hcs : csB n ws = false) :
    Calls Try.prog 18 #[.int .i64 n, .slice a ws.length cap] w fun e w' => e = .returned (.slice none 0 0) ∧ w = w' := by
  go_enter Try.func18, Try.ntmps18
  go_wp2_with fail
  refine (iavg_no 2 n a cap ws _ h hn hcs).mono ?_
  rintro e w' ⟨rfl, rfl⟩
  go_wp2_with fail
  go_ret
  exact ⟨rfl, rfl⟩
theorem imiddle (n : Int) (a : Option Addr) (cap : Nat) (ws : List Int) (w : World) (h : IsInts w a ws) (hn : ws.length ≤ 1048576) (hcs : csB n ws = true) :
    Calls Try.prog 18 #[.int .i64 n, .slice a ws.length cap] w (Divd ws.length (sa 2 n ws) w) := by
  have HC := Lib.hid hcs
  clear hcs
  go_enter Try.func18, Try.ntmps18
  go_wp2_with fail
  refine (iavg 2 n a cap ws _ h hn (by omega) HC.out).mono ?_
  rintro e w' ⟨g, rfl, hg, hr, hB⟩
  go_wp2_with fail
  go_ret
  exact ⟨g, rfl, hg, hr, hB⟩
end Go.Proofs.Ytigapnbpgbfbhab
