/- Customs that are never first, by the model. Condition: at most 1048576 customs. -/
import Derived.Test.YtigapnbpgbfbhabRulS
namespace Go.Proofs.Ytigapnbpgbfbhab
open Go.RowKit
set_option linter.unusedSimpArgs false
set_option linter.unusedVariables false
set_option maxRecDepth 100000 in
set_option maxHeartbeats 4000000 in
/-- spec.reached -/
theorem sReach (a : Option Addr) (cap : Nat) (rs : List Ru) (i : Nat) (w : World) (h : IsRu w a rs) (hn : rs.length ≤ 1048576) (hv : vrB rs = true) (hi : i < rs.length) :
    Calls Try.prog 58 #[.slice a rs.length cap, .int .i64 (i : Int)] w fun e w' => e = .returned (.bool (everB rs i)) ∧ Below w.heap.size w w' := by
  have HF : Hid (∀ W hh u, IsRu W a rs → Calls Try.prog 56 #[.slice a rs.length cap, .int .i64 hh, .int .i64 u] W fun e w' => e = .returned (.int .i64 (frF rs hh u)) ∧ Below W.heap.size W w') := fun W hh u hW => sfR a cap rs hh u W hW hn
  have HY : Hid (∀ hh u, frF rs hh u = (i : Int) → everB rs i = true) := fun hh u e => (ever_iff hv hi).2 ⟨hh, u, e⟩
  have HN := Lib.hid (ever_no2 hv hi)
  have b := vr_at hv hi
  have HBD : Hid (∀ j, j < rs.length → 0 ≤ (rs.getD j ru0).2.2.2.1 ∧ (rs.getD j ru0).2.2.2.1 ≤ 500) := fun j hj => by have := (vr_at hv hj).2.1; omega
  have HH := Lib.hid h
  rcases h with rfl | ⟨g, o, rfl, hc⟩
  · exact absurd hi (Nat.not_lt_zero _)
  have HC := Lib.hid hc
  have i0 : (0 : Int) ≤ (i : Int) := by omega
  have i1 : (i : Int) < (rs.length : Int) := by omega
  obtain ⟨c0, c1, _, _, _⟩ := ru_at hc (Below.refl _ _) hi
  have HC0 : Hid (∀ W, Below w.heap.size w W → W.cell? ⟨g, o + i * 5 + 1, none⟩ = some (.int .i64 (rs.getD i ru0).2.1)) := fun W hB => (ru_at hc hB hi).2.1
  clear hc hv
  generalize (rs.getD i ru0).1 = x0 at c0 b HN
  generalize (rs.getD i ru0).2.1 = x1 at c1 b HN HC0
  obtain ⟨⟨b0, b1, b2⟩, _, _⟩ := b
  clear c1
  go_enter Try.func58, Try.ntmps58
  go_wp2_with fail
  clear c0
  go_loopw [5] (fun v wr => ∃ hh : Int, x0 ≤ hh ∧ hh ≤ x1 + 1 ∧ v = .int .i64 hh ∧ Hid (∀ p : Int, x0 ≤ p → p < hh → ∀ j, j < rs.length → frF rs p (rs.getD j ru0).2.2.1 ≠ (i : Int) ∧ frF rs p ((rs.getD j ru0).2.2.2.1 + 1) ≠ (i : Int)) ∧ Below w.heap.size w wr) (fun v _ => (x1 + 1 - intOf v).toNat)
  case atStart => exact ⟨x0, Int.le_refl _, by omega, rfl, (fun p h1 h2 => by omega), by go_grown⟩
  case round =>
    obtain ⟨hh, hh0, hh1, rfl, HA, hB⟩ := hrel
    have c1 := HC0.out _ hB
    by_cases hlt : hh ≤ x1
    · have e1 : decide (hh ≤ x1) = true := decide_eq_true hlt
      have HB := Lib.hid hB
      clear hB
      go_wp2_with fail
      clear c1
      go_loopw [6] (fun v wi => ∃ k : Nat, k ≤ rs.length ∧ v = .int .i64 k ∧ Hid (∀ j, j < k → frF rs hh (rs.getD j ru0).2.2.1 ≠ (i : Int) ∧ frF rs hh ((rs.getD j ru0).2.2.2.1 + 1) ≠ (i : Int)) ∧ Below w.heap.size w wi) (fun v _ => rs.length - (intOf v).toNat)
      case atStart => exact ⟨0, Nat.zero_le _, rfl, (fun q h1 => absurd h1 (Nat.not_lt_zero _)), HB.out⟩
      case round =>
        clear HB
        obtain ⟨k, hk, rfl, HU, hB⟩ := hrel
        by_cases hkt : k < rs.length
        · obtain ⟨_, _, d2, _, _⟩ := ru_at HC.out hB hkt
          have HD3 : Hid (∀ W, Below w.heap.size w W → W.cell? ⟨g, o + k * 5 + 3, none⟩ = some (.int .i64 (rs.getD k ru0).2.2.2.1)) := fun W hB => (ru_at HC.out hB hkt).2.2.2.1
          have bd := HBD.out k hkt
          have HUN : Hid ((frF rs hh (rs.getD k ru0).2.2.1 ≠ (i : Int) ∧ frF rs hh ((rs.getD k ru0).2.2.2.1 + 1) ≠ (i : Int)) → ∀ j, j < k + 1 → frF rs hh (rs.getD j ru0).2.2.1 ≠ (i : Int) ∧ frF rs hh ((rs.getD j ru0).2.2.2.1 + 1) ≠ (i : Int)) := fun e j hj => by
            by_cases c : j = k
            · rw [c]; exact e
            · exact HU.out j (by omega)
          generalize (rs.getD k ru0).2.2.1 = y2 at d2 HUN
          generalize (rs.getD k ru0).2.2.2.1 = y3 at HD3 bd HUN
          have CF := HF.out _ hh y2 (ru_below HH.out hB)
          have CG : Hid (∀ W, Below w.heap.size w W → Calls Try.prog 56 #[.slice (some ⟨g, o, none⟩) rs.length cap, .int .i64 hh, .int .i64 (y3 + 1)] W fun e w' => e = .returned (.int .i64 (frF rs hh (y3 + 1))) ∧ Below W.heap.size W w') := fun W hW => HF.out W hh (y3 + 1) (ru_below HH.out hW)
          have HB := Lib.hid hB
          have k0 : (0 : Int) ≤ (k : Int) := by omega
          have k1 : (k : Int) < (rs.length : Int) := by omega
          have wz : IntKind.i64.wrap (y3 + 1) = y3 + 1 := by rw [IntKind.wrap_i64]; omega
          clear hB
          by_cases e : frF rs hh y2 = (i : Int)
          · rw [e] at CF
            have HR := Lib.hid (HY.out hh y2 e)
            clear e
            go_wp2_with fail
            refine CF.mono ?_
            rintro e w2 ⟨rfl, C⟩
            have HX := Lib.hid (bel_tr HB.out C)
            clear C
            go_wp2_with fail
            go_ret
            exact ⟨ret_bool HR.out.symm, HX.out⟩
          · have e3 : (frF rs hh y2 == (i : Int)) = false := beq_eq_false_iff_ne.2 e
            have HE1 := Lib.hid e
            generalize frF rs hh y2 = fv at CF e3 e
            by_cases e' : frF rs hh (y3 + 1) = (i : Int)
            · rw [e'] at CG
              have HR := Lib.hid (HY.out hh (y3 + 1) e')
              clear e'
              go_wp2_with fail
              refine CF.mono ?_
              rintro e w2 ⟨rfl, C⟩
              have HX := Lib.hid (bel_tr HB.out C)
              have d3 := HD3.out _ HX.out
              have CG := CG.out _ HX.out
              clear C
              go_wp2_with fail
              refine CG.mono ?_
              rintro e w3 ⟨rfl, C⟩
              have HX3 := Lib.hid (bel_tr HX.out C)
              clear C
              go_wp2_with fail
              go_ret
              exact ⟨ret_bool HR.out.symm, HX3.out⟩
            · have e4 : (frF rs hh (y3 + 1) == (i : Int)) = false := beq_eq_false_iff_ne.2 e'
              have HR := Lib.hid (HUN.out ⟨HE1.out, e'⟩)
              generalize frF rs hh (y3 + 1) = fw at CG e4 e'
              go_wp2_with fail
              refine CF.mono ?_
              rintro e w2 ⟨rfl, C⟩
              have HX := Lib.hid (bel_tr HB.out C)
              have d3 := HD3.out _ HX.out
              have CG := CG.out _ HX.out
              clear C
              go_wp2_with fail
              refine CG.mono ?_
              rintro e w3 ⟨rfl, C⟩
              have HX3 := Lib.hid (bel_tr HX.out C)
              clear C
              go_wp2_with fail
              go_roundw
              case rel => exact ⟨k + 1, by omega, by go_num, HR.out, HX3.out⟩
              case measure => simp [intOf]; omega
        · have HR : Hid (∀ p : Int, x0 ≤ p → p < hh + 1 → ∀ j, j < rs.length → frF rs p (rs.getD j ru0).2.2.1 ≠ (i : Int) ∧ frF rs p ((rs.getD j ru0).2.2.2.1 + 1) ≠ (i : Int)) := fun p p0 p1 j hj => by
            by_cases c : p = hh
            · rw [c]; exact HU.out j (by omega)
            · exact HA.out p p0 (by omega) j hj
          have wz : IntKind.i64.wrap (hh + 1) = hh + 1 := by rw [IntKind.wrap_i64]; omega
          have HB := Lib.hid hB
          clear hB
          go_wp2_with fail
          go_roundw
          case rel => exact ⟨hh + 1, by omega, by omega, rfl, HR.out, HB.out⟩
          case measure => simp only [intOf]; omega
    · have e1 : decide (hh ≤ x1) = false := decide_eq_false hlt
      have HR := Lib.hid (HN.out (fun p p0 p1 j hj => HA.out p p0 (by omega) j hj))
      have HB := Lib.hid hB
      clear hB
      go_wp2_with fail
      go_ret
      exact ⟨ret_bool HR.out.symm, HB.out⟩
set_option maxRecDepth 100000 in
set_option maxHeartbeats 4000000 in
/-- spec.DeadRules -/
theorem sDead (a : Option Addr) (cap : Nat) (rs : List Ru) (w : World) (h : IsRu w a rs) (hn : rs.length ≤ 1048576) :
    Calls Try.prog 30 #[.slice a rs.length cap] w (OutI w (deadV rs)) := by
  obtain ⟨i0, hi0, hz0, hz1, hz2⟩ := info_parts infoInt
  have CV := svR a cap rs w h hn
  cases hv : vrB rs with
  | false =>
    rw [hv] at CV
    rw [deadV_no hv]
    clear hv h
    go_enter Try.func30, Try.ntmps30
    go_wp2_with fail
    refine CV.mono ?_
    rintro e w1 ⟨rfl, C⟩
    go_wp2_with fail
    go_ret
    exact outI_nil C
  | true =>
  rw [hv] at CV
  rw [deadV_yes hv]
  have HE : Hid (∀ (W : World) (i : Nat), Below w.heap.size w W → i < rs.length → Calls Try.prog 58 #[.slice a rs.length cap, .int .i64 (i : Int)] W fun e w' => e = .returned (.bool (everB rs i)) ∧ Below W.heap.size W w') := fun W i hW hi => sReach a cap rs i W (ru_below h hW) hn hv hi
  clear hv h
  go_enter Try.func30, Try.ntmps30
  go_wp2_with fail
  refine CV.mono ?_
  rintro e w1 ⟨rfl, C⟩
  clear CV
  go_wp2_with fail
  go_loopw [3, 4] (fun v i wr => ∃ q : Nat, q ≤ rs.length ∧ i = .int .i64 q ∧ OwnI wr w.heap.size v (deadTo rs q) ∧ Below w.heap.size w wr) (fun _ i _ => rs.length - (intOf i).toNat)
  case atStart => exact ⟨0, Nat.zero_le _, rfl, OwnI.new C, C.alloc C.size _⟩
  case round =>
    clear C
    obtain ⟨q, hq, rfl, hO, hB⟩ := hrel
    by_cases hlt : q < rs.length
    · have CE := HE.out wr q hB hlt
      have hll := deadTo_len rs q
      have HY := Lib.hid (deadTo_yes (rs := rs) (k := q))
      have HNO := Lib.hid (deadTo_no (rs := rs) (k := q))
      have q1 : (q : Int) < (rs.length : Int) := by omega
      generalize deadTo rs q = dq at hO hll HY HNO
      have HO := Lib.hid hO
      have HB := Lib.hid hB
      clear hO hB
      cases hb : everB rs q with
      | true =>
        rw [hb] at CE
        have HR := Lib.hid (HNO.out hb)
        clear hb
        go_wp2_with fail
        refine CE.mono ?_
        rintro e w2 ⟨rfl, C⟩
        have HX := Lib.hid (And.intro (HO.out.of_block C) (bel_tr HB.out C))
        clear C
        go_wp2_with fail
        go_roundw
        case rel => exact ⟨q + 1, by omega, by go_num, by rw [HR.out]; exact HX.out.1, HX.out.2⟩
        case measure => simp [intOf]; omega
      | false =>
        rw [hb] at CE
        have HR := Lib.hid (HY.out hb)
        clear hb
        go_wp2_with fail
        refine CE.mono ?_
        rintro e w2 ⟨rfl, C⟩
        have hO2 := HO.out.of_block C
        have hB2 := bel_tr HB.out C
        have hsz := hB2.size
        have hl2 : dq.length ≤ 1048576 := by omega
        clear C CE
        go_wp2_with (first | (at_builtin; refine wpList_append_own _ rfl (.tmp 19) (.tmp 21) _ rfl w.heap.size 3 i0 (.int .i64 0) 1 8 Try.underlying23 hi0 hz0 hz1 hz2 rfl (by decide) _ _ _ rfl (hO2.alloc _) ⟨w2.heap.size, 0, none⟩ 1 1 [.int .i64 (q : Int)] rfl rfl (cell_one_new _ _ _) (fun x hx => by simp at hx; subst hx; rfl) (by unfold maxLen; omega) (by omega) (by simp; omega) ?_; intro v3 w3 hown3 hgrow3 hnil3))
        have HX : Hid (OwnI w3 w.heap.size v3 (dq ++ [(q : Int)]) ∧ Below w.heap.size w w3) := ⟨OwnI.snoc hown3, (hB2.alloc hsz _).grown hgrow3 (by simp; omega) hO2.grow⟩
        clear hO2 hown3 hgrow3 hnil3 hB2
        go_roundw
        case rel => exact ⟨q + 1, by omega, by go_num, by rw [HR.out]; exact HX.out.1, HX.out.2⟩
        case measure => simp [intOf]; omega
    · have HO := Lib.hid hO
      have HB := Lib.hid hB
      clear hO hB
      go_wp2_with fail
      go_ret
      exact ⟨_, rfl, by rw [show q = rs.length from by omega] at HO; exact HO.out, HB.out⟩
end Go.Proofs.Ytigapnbpgbfbhab
