/- Rows of numbers that are made and stored into; what passes a node; weights, by the program. Condition: at most 1048576 nodes. -/
import Derived.Test.YtigapnbpgbfbhaaGrB
import Derived.Test.YtigapnbpgbfbhaaFlowP
import Derived.Test.YtigapnbpgbfbhaaGrA
import Derived.Test.YtigapnbpgbfbhaaAvg
namespace Go.Proofs.Ytigapnbpgbfbhaa
open Go.RowKit
set_option linter.unusedSimpArgs false
set_option linter.unusedVariables false
theorem kp6 {W wq v : World} {p0 p1 p2 p3 p4 p5 : Addr} {u0 u1 u2 u3 u4 u5 : Value} (hb : Below W.heap.size W wq) (h : (W.cell? p0 = some u0 ∧ W.cell? p1 = some u1 ∧ W.cell? p2 = some u2 ∧ W.cell? p3 = some u3 ∧ W.cell? p4 = some u4 ∧ W.cell? p5 = some u5) ∧ Below v.heap.size v W) :
    (wq.cell? p0 = some u0 ∧ wq.cell? p1 = some u1 ∧ wq.cell? p2 = some u2 ∧ wq.cell? p3 = some u3 ∧ wq.cell? p4 = some u4 ∧ wq.cell? p5 = some u5) ∧ Below v.heap.size v wq := by
  obtain ⟨⟨a, b, c, d, e, f⟩, g⟩ := h
  have k : ∀ {p : Addr} {u : Value}, W.cell? p = some u → wq.cell? p = some u := fun hp => (hb.cell (World.block_lt_of_cell? W _ hp)).trans hp
  exact ⟨⟨k a, k b, k c, k d, k e, k f⟩, bel_tr g hb⟩
set_option maxHeartbeats 1000000 in
/-- impl.passingOf -/
theorem ipassing (x0 x1 x2 x3 x4 c : Int) (w : World) (hc : 0 ≤ c ∧ c ≤ 500) (h2 : 0 ≤ x2 ∧ x2 ≤ 500) (h3 : 0 ≤ x3 ∧ x3 ≤ 500) :
    Calls Try.prog 70 #[.agg #[.int .i64 x0, .int .i64 x1, .int .i64 x2, .int .i64 x3, .int .i64 x4], .int .i64 c] w fun e w' => e = .returned (.int .i64 (passV (x0, x1, x2, x3, x4) c)) ∧ Below w.heap.size w w' := by
  by_cases h : c ≤ x2
  · have HV : Hid (passV (x0, x1, x2, x3, x4) c = 0) := by show passV _ c = 0; unfold passV; exact if_pos h
    have e1 : decide (c ≤ x2) = true := decide_eq_true h
    go_enter Try.func70, Try.ntmps70
    go_wp2_with fail
    go_ret
    exact ⟨ret_int HV.out.symm, by go_grown⟩
  · have e1 : decide (c ≤ x2) = false := decide_eq_false h
    have wz : IntKind.i64.wrap (c - x2) = c - x2 := by rw [IntKind.wrap_i64]; omega
    by_cases h4 : x3 < c - x2
    · have HV : Hid (passV (x0, x1, x2, x3, x4) c = x3) := by show passV _ c = x3; unfold passV; rw [if_neg h]; exact if_pos h4
      have e2 : decide (x3 < c - x2) = true := decide_eq_true h4
      go_enter Try.func70, Try.ntmps70
      go_wp2_with fail
      go_ret
      exact ⟨ret_int HV.out.symm, by go_grown⟩
    · have HV : Hid (passV (x0, x1, x2, x3, x4) c = c - x2) := by show passV _ c = c - x2; unfold passV; rw [if_neg h]; exact if_neg h4
      have e2 : decide (x3 < c - x2) = false := decide_eq_false h4
      go_enter Try.func70, Try.ntmps70
      go_wp2_with fail
      go_ret
      exact ⟨ret_int HV.out.symm, by go_grown⟩
set_option maxHeartbeats 2000000 in
/-- impl.weightsOf -/
theorem iweights (a b : Option Addr) (cap cb : Nat) (ns : List Nd) (ks : List Int) (w : World) (h : IsNd w a ns) (hb : IsInts w b ks) (hk : ∀ z ∈ ks, ∃ j : Nat, z = (j : Int) ∧ j < ns.length) (hn : ks.length ≤ 1048576) (hnn : ns.length ≤ 1048576) :
    Calls Try.prog 71 #[.slice a ns.length cap, .slice b ks.length cb] w (OutI w (wk ns ks)) := by
  have hmk := run_make_row' (P := Try.prog) 23 3 (.int .i64 0) 8 Try.underlying23 infoInt rfl .i64 .i64 ks.length (by omega) (by omega)
  rcases hb with rfl | ⟨gb, ob, rfl, hcb⟩
  · have hmk0 := run_make_row' (P := Try.prog) 23 3 (.int .i64 0) 8 Try.underlying23 infoInt rfl .i64 .i64 0 (by omega) (by omega)
    rw [show ((0 : Nat) : Int) = 0 from rfl] at hmk0
    clear hmk
    go_enter Try.func71, Try.ntmps71
    go_wp2_with fail
    refine wp_loop_rounds 1 ?_
    rw [rounds_succ]
    go_wp2_with fail
    go_ret
    exact ⟨_, rfl, OwnI.made (Below.refl _ w) 0 (by omega), by go_grown⟩
  · have HC := Lib.hid h
    have HCB := Lib.hid hcb
    have HK := Lib.hid hk
    clear h hcb hk
    go_enter Try.func71, Try.ntmps71
    go_wp2_with fail
    clear hmk
    go_loopw [13] (fun i wr => ∃ k : Nat, k ≤ ks.length ∧ i = .int .i64 k ∧ wr.rowIs w.heap.size 3 ks.length (fun j => if j < k then .int .i64 ((wk ns ks).getD j 0) else .int .i64 0) ∧ Below w.heap.size w wr) (fun i _ => ks.length - (intOf i).toNat)
    case atStart => exact ⟨0, Nat.zero_le _, rfl, (World.rowIs_made w (.int .i64 0) ks.length _).congr (fun i hi => by simp), by go_grown⟩
    case round =>
      obtain ⟨k, hk, rfl, hrow, hB⟩ := hrel
      by_cases hlt : k < ks.length
      · have hc0 := HCB.out k hlt
        have hc := (hB.cell (p := ⟨gb, ob + k, none⟩) (World.block_lt_of_cell? w _ hc0)).trans hc0
        obtain ⟨m, hm, hml⟩ := HK.out _ (getD_mem hlt)
        have hd : wr.cell? ⟨w.heap.size, k, none⟩ = some (.int .i64 0) := by rw [hrow.cell hlt, if_neg (Nat.lt_irrefl k)]
        have hf := hrow.frozen k
        have hcon : ∀ z : Int, (wk ns ks).getD k 0 = z → (wr.setCell ⟨w.heap.size, k, none⟩ (.int .i64 z)).rowIs w.heap.size 3 ks.length (fun j => if j < k + 1 then .int .i64 ((wk ns ks).getD j 0) else .int .i64 0) := fun z hz =>
          (hrow.set k (.int .i64 z)).congr (fun j hj => by
            show (if j = k then Value.int .i64 z else if j < k then .int .i64 ((wk ns ks).getD j 0) else .int .i64 0) = _
            by_cases hjk : j = k
            · subst hjk; rw [if_pos rfl, if_pos (by omega), hz]
            · rw [if_neg hjk]
              by_cases hl : j < k
              · rw [if_pos hl, if_pos (by omega)]
              · rw [if_neg hl, if_neg (by omega)])
        have hcon2 := hcon _ (wk_get ns ks hlt)
        rw [hm, show ((m : Int)).toNat = m from by omega] at hcon2
        rw [hm] at hc
        have hnd : IsNd w a ns := HC.out
        rcases hnd with rfl | ⟨g, o, rfl, hcn⟩
        · simp at hml
        have c1 := (nd_at hcn hB hml).2.1
        clear hcon hc0 hcn hm
        generalize (ns.getD m nd0).2.1 = z at c1 hcon2
        have HR := Lib.hid hcon2
        have HB := Lib.hid hB
        have b0 : (0 : Int) ≤ (m : Int) := by omega
        have b1 : (m : Int) < (ns.length : Int) := by omega
        clear hcon2 hrow hB
        go_wp2
        go_roundw
        case rel => exact ⟨k + 1, by omega, by go_num, HR.out, HB.out.setCell (Nat.le_refl _) _⟩
        case measure => simp [intOf]; omega
      · have HR := Lib.hid hrow
        have HB := Lib.hid hB
        clear hrow hB
        go_wp2
        go_ret
        refine ⟨_, rfl, ?_, HB.out⟩
        exact OwnI.of_row HR.out (wk_len ns ks) (fun j hj => by rw [if_pos (by omega)]) (Nat.le_refl _) hn
theorem row_own {w : World} {base g : Nat} {zs : List Int} (h : Row w g zs) (hb : base ≤ g) (hn : zs.length ≤ 1048576) : OwnI w base (.slice (some ⟨g, 0, none⟩) zs.length zs.length) zs :=
  OwnI.of_row h rfl (fun j hj => rfl) hb hn
/-- impl.SplitByMiddle, whatever the weights -/
theorem imidV (n : Int) (a : Option Addr) (cap : Nat) (ws : List Int) (w : World) (h : IsInts w a ws) (hn : ws.length ≤ 1048576) :
    Calls Try.prog 69 #[.int .i64 n, .slice a ws.length cap] w (OutI w (if csB n ws = true then sa 2 n ws else [])) := by
  by_cases hc : csB n ws = true
  · rw [if_pos hc]
    refine (imiddle n a cap ws w h hn hc).mono ?_
    rintro e w' ⟨g, rfl, hg, hr, hB⟩
    have := row_own hr hg (by rw [sa_len]; exact hn)
    rw [sa_len] at this
    exact ⟨_, rfl, this, hB⟩
  · rw [if_neg hc]
    refine (imiddle_no n a cap ws w h hn (by simpa using hc)).mono ?_
    rintro e w' ⟨rfl, rfl⟩
    exact outI_nil (Below.refl _ _)
theorem icanFlow (a : Option Addr) (cap : Nat) (ns : List Nd) (fl : Int) (w : World) (h : IsNd w a ns) (hn : ns.length ≤ 1048576) (hcap : ns.length ≤ cap) :
    Calls Try.prog 54 #[.slice a ns.length cap, .int .i64 fl] w fun e w' => e = .returned (.bool (flB ns fl)) ∧ Below w.heap.size w w' := by
  have VN := iVN a cap ns _ h hn hcap
  have CW := fun W => iwithin fl 500 W
  unfold flB
  cases hv : vnB ns with
  | false =>
    rw [hv] at VN
    clear hv h
    go_enter Try.func54, Try.ntmps54
    go_wp2_with fail
    refine VN.mono ?_
    rintro e w1 ⟨rfl, C⟩
    go_wp2_with fail
    go_ret
    exact ⟨rfl, C⟩
  | true =>
    rw [hv] at VN
    obtain ⟨t, ht⟩ : ∃ t, (decide (0 ≤ fl) && decide (fl ≤ 500)) = t := ⟨_, rfl⟩
    rw [ht] at CW ⊢
    clear hv h ht
    go_enter Try.func54, Try.ntmps54
    go_wp2_with fail
    refine VN.mono ?_
    rintro e w1 ⟨rfl, C⟩
    go_wp2_with fail
    refine (CW _).mono ?_
    rintro e w' ⟨rfl, rfl⟩
    go_wp2_with fail
    go_ret
    exact ⟨by cases t <;> rfl, C⟩
end Go.Proofs.Ytigapnbpgbfbhaa
