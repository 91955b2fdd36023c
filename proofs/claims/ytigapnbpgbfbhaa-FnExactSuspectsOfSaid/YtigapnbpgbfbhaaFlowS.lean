/- What passes a node, what the kids of a node get, and what comes to each node, by the model. Condition: at most 1048576 nodes. -/
import Derived.Test.YtigapnbpgbfbhaaFlowI
import Derived.Test.YtigapnbpgbfbhaaFlowQ
import Derived.Test.YtigapnbpgbfbhaaAvgS
import Derived.Deep.RegionHeld3
namespace Go.Proofs.Ytigapnbpgbfbhaa
open Go.RowKit
set_option linter.unusedSimpArgs false
set_option linter.unusedVariables false
set_option maxHeartbeats 1000000 in
/-- spec.passing -/
theorem spassing (x0 x1 x2 x3 x4 c : Int) (w : World) (hc : 0 ≤ c ∧ c ≤ 500) (h2 : 0 ≤ x2 ∧ x2 ≤ 500) (h3 : 0 ≤ x3 ∧ x3 ≤ 500) :
    Calls Try.prog 53 #[.agg #[.int .i64 x0, .int .i64 x1, .int .i64 x2, .int .i64 x3, .int .i64 x4], .int .i64 c] w fun e w' => e = .returned (.int .i64 (passV (x0, x1, x2, x3, x4) c)) ∧ Below w.heap.size w w' := by
  have HV : Hid (passV (x0, x1, x2, x3, x4) c = min x3 (c - min x2 c)) := pass_min (x := (x0, x1, x2, x3, x4)) h3.1 hc.1 h2.1
  have wz : IntKind.i64.wrap (c - min x2 c) = c - min x2 c := by rw [IntKind.wrap_i64]; omega
  go_enter Try.func53, Try.ntmps53
  go_wp2_with fail
  all_goals (go_ret; exact ⟨ret_int (by rw [HV.out]; omega), by go_grown⟩)
/-- what the kids of a node get, 0 where it is nothing -/
def giveS (ns : List Nd) (k : Int) (p : Int) : List Int := if vwB (wts ns k) = true then sa 2 p (wts ns k) else List.replicate (kidsF ns k).length 0
theorem giveS_len (ns : List Nd) (k : Int) (p : Int) : (giveS ns k p).length = (kidsF ns k).length := by
  unfold giveS; split
  · rw [sa_len]; unfold wts; rw [wk_len]
  · rw [List.length_replicate]
theorem giveS_put {ns : List Nd} (hv : vnB ns = true) {fl : Int} {k : Nat} (hk : k < ns.length) : putTo (comeTo ns fl k) (kidsF ns (k : Int)) (giveS ns (k : Int) (passV (ns.getD k nd0) ((comeTo ns fl k).getD k 0))) (kidsF ns (k : Int)).length = comeTo ns fl (k + 1) := by
  unfold giveS
  by_cases hw : vwB (wts ns (k : Int)) = true
  · rw [if_pos hw]; exact step_give hw
  · rw [if_neg hw]; exact step_zero hv hk hw
theorem wk_take (ns : List Nd) (ks : List Int) (k : Nat) (h : k < ks.length) : (wk ns ks).take (k + 1) = (wk ns ks).take k ++ [(ns.getD (ks.getD k 0).toNat nd0).2.1] := by
  rw [take_snocD (wk ns ks) (by rw [wk_len]; exact h) 0, wk_get ns ks h]
set_option maxHeartbeats 8000000 in
/-- spec.shareKids -/
theorem sshare (a : Option Addr) (cap : Nat) (ns : List Nd) (k : Nat) (p : Int) (w : World) (h : IsNd w a ns) (hv : vnB ns = true) (hp : 0 ≤ p ∧ p ≤ 500) :
    Calls Try.prog 52 #[.slice a ns.length cap, .int .i64 (k : Int), .int .i64 p] w (OutI w (giveS ns (k : Int) p)) := by
  obtain ⟨l1, l12, _⟩ := vn_is hv
  obtain ⟨i0, hi0, hz0, hz1, hz2⟩ := info_parts infoInt
  have CK := skids a cap ns (k : Int) w h hv
  have hkl := kids_len ns (k : Int)
  have hkm : ∀ z ∈ kidsF ns (k : Int), ∃ j : Nat, z = (j : Int) ∧ j < ns.length := fun z hz => by obtain ⟨j, a, b, _⟩ := kids_bd hz; exact ⟨j, a, b⟩
  have HW1 : Hid (∀ z ∈ wts ns (k : Int), 0 ≤ z ∧ z ≤ 1000) := wts_bd hv (k : Int)
  have HWZ := Lib.hid (wts_zero hv (k : Int))
  have HWE : Hid (wts ns (k : Int) = wk ns (kidsF ns (k : Int))) := rfl
  have HGS : Hid (giveS ns (k : Int) p = if vwB (wts ns (k : Int)) = true then sa 2 p (wts ns (k : Int)) else List.replicate (kidsF ns (k : Int)).length 0) := rfl
  have HMK := Lib.hid (run_make_row' (P := Try.prog) 23 3 (.int .i64 0) 8 Try.underlying23 infoInt rfl .i64 .i64 (kidsF ns (k : Int)).length (by omega) (by omega))
  rcases h with rfl | ⟨g, o, rfl, hc⟩
  · simp at l1
  have HC := Lib.hid hc
  have HKM := Lib.hid hkm
  clear hc hv hkm
  generalize kidsF ns (k : Int) = ks at CK hkl HKM HWE HGS HMK
  generalize wts ns (k : Int) = ws at HW1 HWZ HWE HGS
  go_enter Try.func52, Try.ntmps52
  go_wp2_with fail
  refine CK.mono ?_
  rintro e w1 ⟨v7, rfl, hK, hB⟩
  obtain ⟨kb, kc, rfl, _⟩ := hK.ints
  have HC1 : Hid (∀ i, i < ns.length → w1.cell? ⟨g, o + i * 5 + 1, none⟩ = some (.int .i64 (ns.getD i nd0).2.1)) := fun i hi => (nd_at HC.out hB hi).2.1
  have HK1 := Lib.hid hK
  have HB1 := Lib.hid hB
  have hs1 := hB.size
  clear CK hK hB HC
  go_wp2_with fail
  obtain ⟨V, hV⟩ : ∃ V, V = w1 := ⟨_, rfl⟩
  subst hV
  go_loopw [8, 9] (fun v i wr => ∃ q : Nat, q ≤ ks.length ∧ i = .int .i64 q ∧ OwnI wr V.heap.size v ((wk ns ks).take q) ∧ Below V.heap.size V wr) (fun _ i _ => ks.length - (intOf i).toNat)
  case atStart => exact ⟨0, Nat.zero_le _, rfl, OwnI.new (Below.refl _ V), by go_grown⟩
  case round =>
    obtain ⟨q, hq, rfl, hO, hB⟩ := hrel
    have hsz := hB.size
    by_cases hlt : q < ks.length
    · rcases (HK1.out.of_block hB).at_ with rfl | ⟨gk, ok, rfl, hkc⟩
      · simp at hlt
      have c1 := hkc q hlt
      obtain ⟨j, hj, hjl⟩ := HKM.out _ (getD_mem hlt)
      have c2' := HC1.out j hjl
      have c2 := (hB.cell (World.block_lt_of_cell? V _ c2')).trans c2'
      have hwt := wk_take ns ks q hlt
      rw [hj, show ((j : Int)).toNat = j from by omega] at hwt
      rw [hj] at c1
      have hll : ((wk ns ks).take q).length ≤ 1048576 := by rw [List.length_take]; omega
      generalize (ns.getD j nd0).2.1 = z at c2 hwt
      generalize (wk ns ks).take q = tk at hO hwt hll
      have b0 : (0 : Int) ≤ (j : Int) := by omega
      have b1 : (j : Int) < (ns.length : Int) := by omega
      have HWT := Lib.hid hwt
      clear hkc c2' hwt hj
      go_wp2_with (first | (at_builtin; refine wpList_append_own _ rfl (.tmp 20) (.tmp 29) _ rfl V.heap.size 3 i0 (.int .i64 0) 1 8 Try.underlying23 hi0 hz0 hz1 hz2 rfl (by decide) _ _ _ rfl (hO.alloc _) ⟨wr.heap.size, 0, none⟩ 1 1 [.int .i64 z] rfl rfl (cell_one_new _ _ _) (fun x hx => by simp at hx; subst hx; rfl) (by unfold maxLen; omega) (by omega) (by simp; omega) ?_; intro v3 w3 hown3 hgrow3 hnil3))
      have HR : Hid (OwnI w3 V.heap.size v3 ((wk ns ks).take (q + 1)) ∧ Below V.heap.size V w3) := ⟨by rw [HWT.out]; exact OwnI.snoc hown3, (hB.alloc hsz _).grown hgrow3 (by simp; omega) hO.grow⟩
      clear hO hown3 hgrow3 hnil3 hB c1 c2
      go_roundw
      case rel => exact ⟨q + 1, by omega, by go_num, HR.out.1, HR.out.2⟩
      case measure => simp [intOf]; omega
    · rw [List.take_of_length_le (by rw [wk_len]; omega), ← HWE.out] at hO
      obtain ⟨wb, wc, rfl, hWI⟩ := hO.ints
      have HWL : Hid (ws.length = ks.length) := by show ws.length = ks.length; rw [HWE.out, wk_len]
      have CT := stotal wb wc ws wr hWI (by rw [HWL.out]; omega) (fun z hz => by have := HW1.out z hz; omega)
      have HB2 := Lib.hid (bel_tr HB1.out hB)
      have HWI := Lib.hid hWI
      have hsz2 := HB2.out.size
      have HWZ2 := HWZ.out
      obtain ⟨sm, hsm⟩ : ∃ s, ws.sum = s := ⟨_, rfl⟩
      rw [hsm] at CT HWZ2
      have hkq : (q : Int) = (ks.length : Int) := by omega
      clear hB hO hWI hsm
      go_wp2_with fail
      refine CT.mono ?_
      rintro e w' ⟨rfl, rfl⟩
      clear CT
      by_cases hw : vwB ws = true
      · have HGV : Hid (giveS ns (k : Int) p = sa 2 p ws) := by show _ = _; rw [HGS.out, if_pos hw]
        have e1 : (sm == 0) = false := by rw [HWZ2, hw]; rfl
        have CB := sbyAvg 2 p wb wc ws wr HWI.out (by rw [HWL.out]; omega) (by omega) (by rw [cs_is (by omega)]; exact hw)
        clear hw HWZ2
        go_wp2_with fail
        refine CB.mono ?_
        rintro e w5 ⟨gq, rfl, hg, hr, hb5⟩
        have HE : Hid (OwnI w5 w.heap.size (.slice (some ⟨gq, 0, none⟩) ws.length ws.length) (giveS ns (k : Int) p) ∧ Below w.heap.size w w5) := by
          have := row_own hr (base := w.heap.size) (by omega) (by rw [sa_len, HWL.out]; omega)
          rw [sa_len] at this
          exact ⟨by rw [HGV.out]; exact this, bel_tr HB2.out hb5⟩
        clear hg hr hb5 CB
        go_wp2_with fail
        go_ret
        exact ⟨_, rfl, HE.out⟩
      · have HGV : Hid (giveS ns (k : Int) p = List.replicate ks.length 0) := by show _ = _; rw [HGS.out, if_neg hw]
        have hw2 : vwB ws = false := by simpa using hw
        have e1 : (sm == 0) = true := by rw [HWZ2, hw2]; rfl
        obtain rfl : sm = 0 := by simpa using e1
        have hmk := HMK.out
        have HE : Hid (OwnI (wr.alloc (.cells (madeCells #[.int .i64 0] ks.length) 3)) w.heap.size (.slice (some ⟨wr.heap.size, 0, none⟩) ks.length ks.length) (giveS ns (k : Int) p) ∧ Below w.heap.size w (wr.alloc (.cells (madeCells #[.int .i64 0] ks.length) 3))) := ⟨by rw [HGV.out]; exact OwnI.made HB2.out ks.length (by omega), HB2.out.alloc HB2.out.size _⟩
        clear hw hw2 HWZ2
        go_wp2_with fail
        go_ret
        exact ⟨_, rfl, HE.out⟩
end Go.Proofs.Ytigapnbpgbfbhaa
