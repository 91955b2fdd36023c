/- Contracts and facts of functions of this program, in build order. Conditions: those stated in each. -/
import Derived.Test.YtaehemmjemhgpaaPAG1
import Derived.Test.YtaehemmjemhgpaaPAG0
import Derived.Deep.RegionHeld3
import Derived.Deep.RegionWith
import Derived.Deep.QuietTactic
import Derived.BigQuiet
import Derived.RegionTactic
import Derived.Deep.AppendLies
set_option maxRecDepth 100000
set_option maxHeartbeats 16000000
namespace Go.Proofs.Ytaehemmjemhgpaa
open Go.RowKit
set_option linter.unusedSimpArgs false
set_option linter.unusedVariables false
/-- impl.areAccounts -/
theorem iareA (a : Option Addr) (cap : Nat) (ac : List Ac) (w : World) (h : IsAc w a ac) (hn : ac.length ≤ 1048576) :
    Calls Try.prog 82 #[.slice a ac.length cap] w fun e w' => e = .returned (.bool (acB ac)) ∧ Below w.heap.size w w' := by
  rcases h with rfl | ⟨g, o, rfl, hc⟩
  · go_enter Try.func82, Try.ntmps82
    go_wp2_with fail
    go_rounds 1
    go_ret
    exact ⟨rfl, by go_grown⟩
  · have HC := Lib.hid hc
    clear hc
    go_enter Try.func82, Try.ntmps82
    go_wp2_with fail
    go_loopw [3, 8] (fun l i wr => ∃ k : Nat, k ≤ ac.length ∧ i = .int .i64 k ∧ l = .int .i64 (lastA ac k) ∧ Hid (∀ j, j < k → okAc ac j = true) ∧ Below w.heap.size w wr) (fun _ i _ => ac.length - (intOf i).toNat)
    case atStart => exact ⟨0, Nat.zero_le _, rfl, rfl, (fun j hj => absurd hj (Nat.not_lt_zero _)), by go_grown⟩
    case round =>
      obtain ⟨k, hk, rfl, rfl, HA, hB⟩ := hrel
      by_cases hlt : k < ac.length
      · obtain ⟨x0, x1⟩ := ac_at HC.out hB hlt
        have HN := Lib.hid (acB_no (ac := ac) hlt)
        have HY := Lib.hid (fun e => rng_more (f := okAc ac) HA.out ((okAc_last ac k).2 e))
        have HE : Hid (lastA ac (k + 1) = (ac.getD k ac0).1) := rfl
        generalize lastA ac k = l at HN HY ⊢
        generalize ac.getD k ac0 = q at x0 x1 HN HY HE
        obtain ⟨x, y⟩ := q
        dsimp only at x0 x1
        have HB := Lib.hid hB
        clear hB
        by_cases h1 : x ≤ l
        · have e1 : decide (x ≤ l) = true := decide_eq_true h1
          have hv : Hid (acB ac = false) := HN.out (fun c => by have := c.1; dsimp only at this; omega)
          go_wp2_with fail
          go_ret
          exact ⟨ret_bool hv.out.symm, HB.out.alloc HB.out.size _⟩
        have e1 : decide (x ≤ l) = false := decide_eq_false h1
        obtain ⟨b2, hb2⟩ : ∃ b, inB3 x 1 999 = b := ⟨_, rfl⟩
        have IO := fun W => iowner3 x W
        rw [hb2] at IO
        cases b2 with
        | false =>
          have hv : Hid (acB ac = false) := HN.out (fun c => by have h3 := inB3_no hb2; have h4 := c.2.1; have h5 := c.2.2.1; dsimp only at h4 h5; omega)
          go_wp2_with fail
          refine (IO _).mono ?_
          rintro e w' ⟨rfl, rfl⟩
          go_wp2_with fail
          go_ret
          exact ⟨ret_bool hv.out.symm, HB.out.alloc HB.out.size _⟩
        | true =>
          by_cases h3 : y < 1
          · have d3 : decide (y < 1) = true := decide_eq_true h3
            have hv : Hid (acB ac = false) := HN.out (fun c => by have h4 := c.2.2.2.1; dsimp only at h4; omega)
            go_wp2_with fail
            refine (IO _).mono ?_
            rintro e w' ⟨rfl, rfl⟩
            go_wp2_with fail
            go_ret
            exact ⟨ret_bool hv.out.symm, HB.out.alloc HB.out.size _⟩
          have d3 : decide (y < 1) = false := decide_eq_false h3
          by_cases h4 : 1000000 < y
          · have d4 : decide (1000000 < y) = true := decide_eq_true h4
            have hv : Hid (acB ac = false) := HN.out (fun c => by have h4 := c.2.2.2.2; dsimp only at h4; omega)
            go_wp2_with fail
            refine (IO _).mono ?_
            rintro e w' ⟨rfl, rfl⟩
            go_wp2_with fail
            go_ret
            exact ⟨ret_bool hv.out.symm, HB.out.alloc HB.out.size _⟩
          have d4 : decide (1000000 < y) = false := decide_eq_false h4
          have HY2 := Lib.hid (HY.out ⟨by dsimp only; omega, (inB3_yes hb2).1, (inB3_yes hb2).2, by dsimp only; omega, by dsimp only; omega⟩)
          go_wp2_with fail
          refine (IO _).mono ?_
          rintro e w' ⟨rfl, rfl⟩
          go_wp2_with fail
          go_roundw
          case rel => exact ⟨k + 1, by omega, by go_num, by rw [HE.out], HY2.out, HB.out.alloc HB.out.size _⟩
          case measure => simp [intOf]; omega
      · have HE : Hid (acB ac = true) := rng_yes (fun j hj => HA.out j (by omega))
        go_wp2_with fail
        go_ret
        exact ⟨ret_bool HE.out.symm, hB⟩
/-- impl.unitsIn -/
theorem iunits (a : Option Addr) (cap : Nat) (ac : List Ac) (w : World) (h : IsAc w a ac) (hn : ac.length ≤ 1048576) (hv : acB ac = true) :
    Calls Try.prog 85 #[.slice a ac.length cap] w fun e w' => e = .returned (.int .i64 (acS ac ac.length)) ∧ Below w.heap.size w w' := by
  rcases h with rfl | ⟨g, o, rfl, hc⟩
  · go_enter Try.func85, Try.ntmps85
    go_wp2_with fail
    go_rounds 1
    go_ret
    exact ⟨rfl, by go_grown⟩
  · have HC := Lib.hid hc
    have HB := Lib.hid (acS_bd hv)
    have HV := Lib.hid hv
    clear hc hv
    go_enter Try.func85, Try.ntmps85
    go_wp2_with fail
    go_loopw [3, 8] (fun s i wr => ∃ k : Nat, k ≤ ac.length ∧ i = .int .i64 k ∧ s = .int .i64 (acS ac k) ∧ Below w.heap.size w wr) (fun _ i _ => ac.length - (intOf i).toNat)
    case atStart => exact ⟨0, Nat.zero_le _, rfl, rfl, by go_grown⟩
    case round =>
      obtain ⟨k, hk, rfl, rfl, hB⟩ := hrel
      obtain ⟨b0, b1⟩ := HB.out k hk
      by_cases hlt : k < ac.length
      · obtain ⟨x0, x1⟩ := ac_at HC.out hB hlt
        have ht : acS ac (k + 1) = acS ac k + (ac.getD k ac0).2 := rfl
        obtain ⟨_, _, z0, z1, _⟩ := (okAc_iff ac k).1 (acB_at HV.out hlt)
        generalize ac.getD k ac0 = hh at x0 x1 ht z0 z1
        obtain ⟨x, y⟩ := hh
        dsimp only at x0 x1 ht z0 z1
        generalize acS ac k = s at ht b0 b1
        have HT := Lib.hid ht
        have HBl := Lib.hid hB
        clear ht hB
        go_wp2
        go_roundw
        case rel => exact ⟨k + 1, by omega, by go_num, by rw [HT.out], HBl.out.alloc HBl.out.size _⟩
        case measure => simp [intOf]; omega
      · obtain rfl : k = ac.length := by omega
        go_wp2
        go_ret
        exact ⟨rfl, hB⟩
/-- impl.ValidTown -/
theorem iVTw (p : TA) (t : Tw) (w : World) (h : IsTw w p t) :
    Calls Try.prog 27 #[twV p t] w fun e w' => e = .returned (.bool (twB t)) ∧ Below w.heap.size w w' := by
  obtain ⟨a1, c1, a2, c2, a3, c3, a4, c4⟩ := p
  obtain ⟨hs, ts, ns, r, hd, ac, rt, tm, ls, cm⟩ := t
  obtain ⟨h1, h2, h3, h4, n1, n2, n3, n4, k1, k2, k3, k4⟩ := h
  dsimp only at h1 h2 h3 h4 n1 n2 n3 n4 k1 k2 k3 k4
  have C1 := fun W (hW : Below w.heap.size w W) => iVL a1 c1 hs W (hs_below h1 hW) n1
  have C2 := fun W (hW : Below w.heap.size w W) => iVT a2 c2 ts W (tn_below h2 hW) n2
  have C3 := fun W (hW : Below w.heap.size w W) => iVN a3 c3 ns W (nd_below h3 hW) n3 k3
  have C4 := fun W => iVB r hd W
  have C5 := fun W (hW : Below w.heap.size w W) => iareA a4 c4 ac W (ac_below h4 hW) n4
  have C6 := fun W (hW : Below w.heap.size w W) (hv : acB ac = true) => iunits a4 c4 ac W (ac_below h4 hW) n4 hv
  obtain ⟨R, hR⟩ : ∃ R, twB ⟨hs, ts, ns, r, hd, ac, rt, tm, ls, cm⟩ = R := ⟨_, rfl⟩
  rw [hR]
  unfold twB at hR
  dsimp only at hR
  have HS5 := Lib.hid (fun (hv : acB ac = true) => acS_bd hv ac.length (Nat.le_refl _))
  obtain ⟨s, hs_⟩ : ∃ s, acS ac ac.length = s := ⟨_, rfl⟩
  rw [hs_] at HS5 C6 hR
  obtain ⟨b1, e1⟩ : ∃ b, vlR hs = b := ⟨_, rfl⟩
  obtain ⟨b2, e2⟩ : ∃ b, vtB ts = b := ⟨_, rfl⟩
  obtain ⟨b3, e3⟩ : ∃ b, vnB ns = b := ⟨_, rfl⟩
  obtain ⟨b4, e4⟩ : ∃ b, vbB r hd = b := ⟨_, rfl⟩
  obtain ⟨b5, e5⟩ : ∃ b, acB ac = b := ⟨_, rfl⟩
  obtain ⟨b6, e6⟩ : ∃ b, inB3 rt 0 500 = b := ⟨_, rfl⟩
  obtain ⟨b7, e7⟩ : ∃ b, inB3 tm 0 5000 = b := ⟨_, rfl⟩
  obtain ⟨b8, e8⟩ : ∃ b, inB3 ls 0 1000000 = b := ⟨_, rfl⟩
  obtain ⟨b9, e9⟩ : ∃ b, inB3 cm 0 1000000 = b := ⟨_, rfl⟩
  rw [e1] at C1 hR
  rw [e2] at C2 hR
  rw [e3] at C3 hR
  rw [e4] at C4 hR
  rw [e5] at C5 hR
  rw [e6, e7, e8, e9] at hR
  have E4 := Lib.hid e4
  have E5 := Lib.hid e5
  have E6 := Lib.hid e6
  have E7 := Lib.hid e7
  have E8 := Lib.hid e8
  have E9 := Lib.hid e9
  have HR := Lib.hid hR
  have H1 := Lib.hid C1
  have H2 := Lib.hid C2
  have H3 := Lib.hid C3
  have H4 := Lib.hid C4
  have H5 := Lib.hid C5
  have H6 := Lib.hid C6
  clear h1 h2 h3 h4 k1 k2 k3 k4 e1 e2 e3 e4 e5 e6 e7 e8 e9 hR C1 C2 C3 C4 C5 C6 hs_ n1 n2 n3
  show Calls _ _ #[.agg #[.slice a1 hs.length c1, .slice a2 ts.length c2, .slice a3 ns.length c3, .int .i64 r, .int .i64 hd, .slice a4 ac.length c4, .int .i64 rt, .int .i64 tm, .int .i64 ls, .int .i64 cm]] _ _
  go_enter Try.func27, Try.ntmps27
  have K := Blk.new w 49 #[.slice a1 hs.length c1, .slice a2 ts.length c2, .slice a3 ns.length c3, .int .i64 r, .int .i64 hd, .slice a4 ac.length c4, .int .i64 rt, .int .i64 tm, .int .i64 ls, .int .i64 cm]
  have B := (Below.refl w.heap.size w).alloc (Nat.le_refl _) (.cells #[.slice a1 hs.length c1, .slice a2 ts.length c2, .slice a3 ns.length c3, .int .i64 r, .int .i64 hd, .slice a4 ac.length c4, .int .i64 rt, .int .i64 tm, .int .i64 ls, .int .i64 cm] 49)
  obtain ⟨q0, q1, q2, q3, q4, q5, q6, q7, q8, q9⟩ := town_cells K
  go_wp2_with fail
  generalize w.alloc (.cells #[.slice a1 hs.length c1, .slice a2 ts.length c2, .slice a3 ns.length c3, .int .i64 r, .int .i64 hd, .slice a4 ac.length c4, .int .i64 rt, .int .i64 tm, .int .i64 ls, .int .i64 cm] 49) = U at K B q0 q1 q2 q3 q4 q5 q6 q7 q8 q9 ⊢
  refine (H1.out _ B).mono ?_
  rintro e u ⟨rfl, C⟩
  replace K := K.next C
  replace B := bel_tr B C
  clear C q0 q1 q2 q3 q4 q5 q6 q7 q8 q9
  obtain ⟨q0, q1, q2, q3, q4, q5, q6, q7, q8, q9⟩ := town_cells K
  cases b1 with
  | false =>
    go_wp2_with fail
    go_ret
    exact ⟨ret_bool HR.out, B⟩
  | true =>
  go_wp2_with fail
  refine (H2.out _ B).mono ?_
  rintro e u ⟨rfl, C⟩
  replace K := K.next C
  replace B := bel_tr B C
  clear C q0 q1 q2 q3 q4 q5 q6 q7 q8 q9
  obtain ⟨q0, q1, q2, q3, q4, q5, q6, q7, q8, q9⟩ := town_cells K
  cases b2 with
  | false =>
    go_wp2_with fail
    go_ret
    exact ⟨ret_bool HR.out, B⟩
  | true =>
  go_wp2_with fail
  refine (H3.out _ B).mono ?_
  rintro e u ⟨rfl, C⟩
  replace K := K.next C
  replace B := bel_tr B C
  clear C q0 q1 q2 q3 q4 q5 q6 q7 q8 q9
  obtain ⟨q0, q1, q2, q3, q4, q5, q6, q7, q8, q9⟩ := town_cells K
  cases b3 with
  | false =>
    go_wp2_with fail
    go_ret
    exact ⟨ret_bool HR.out, B⟩
  | true =>
  go_wp2_with fail
  refine (H4.out _).mono ?_
  rintro e u ⟨rfl, C⟩
  replace K := K.next C
  replace B := bel_tr B C
  clear C q0 q1 q2 q3 q4 q5 q6 q7 q8 q9
  obtain ⟨q0, q1, q2, q3, q4, q5, q6, q7, q8, q9⟩ := town_cells K
  cases b4 with
  | false =>
    go_wp2_with fail
    go_ret
    exact ⟨ret_bool HR.out, B⟩
  | true =>
  go_wp2_with fail
  refine (H5.out _ B).mono ?_
  rintro e u ⟨rfl, C⟩
  replace K := K.next C
  replace B := bel_tr B C
  clear C q0 q1 q2 q3 q4 q5 q6 q7 q8 q9
  obtain ⟨q0, q1, q2, q3, q4, q5, q6, q7, q8, q9⟩ := town_cells K
  cases b5 with
  | false =>
    go_wp2_with fail
    go_ret
    exact ⟨ret_bool HR.out, B⟩
  | true =>
  go_wp2_with fail
  refine (iwithin3 rt 500 _).mono ?_
  rintro e u ⟨rfl, rfl⟩
  rw [E6.out]
  cases b6 with
  | false =>
    go_wp2_with fail
    go_ret
    exact ⟨ret_bool HR.out, B⟩
  | true =>
  go_wp2_with fail
  refine (itime3 tm _).mono ?_
  rintro e u ⟨rfl, rfl⟩
  rw [E7.out]
  cases b7 with
  | false =>
    go_wp2_with fail
    go_ret
    exact ⟨ret_bool HR.out, B⟩
  | true =>
  go_wp2_with fail
  refine (iwithin3 ls 1000000 _).mono ?_
  rintro e u ⟨rfl, rfl⟩
  rw [E8.out]
  cases b8 with
  | false =>
    go_wp2_with fail
    go_ret
    exact ⟨ret_bool HR.out, B⟩
  | true =>
  go_wp2_with fail
  refine (iwithin3 cm 1000000 _).mono ?_
  rintro e u ⟨rfl, rfl⟩
  rw [E9.out]
  cases b9 with
  | false =>
    go_wp2_with fail
    go_ret
    exact ⟨ret_bool HR.out, B⟩
  | true =>
  obtain ⟨s0, s1⟩ := HS5.out E5.out
  have v4 : 0 ≤ hd ∧ hd ≤ 20000 := by have := vb_iff.1 E4.out; omega
  obtain ⟨v5, v6⟩ := inB3_yes E8.out
  obtain ⟨v7, v8⟩ := v4
  have hlen : (ac.length : Int) ≤ 1048576 := by omega
  have w1 : IntKind.i64.wrap (s + hd) = s + hd := by rw [IntKind.wrap_i64]; omega
  have w2 : IntKind.i64.wrap (s + hd + ls) = s + hd + ls := by rw [IntKind.wrap_i64]; omega
  clear HS5 hlen n4 s0 s1 v5 v6 v7 v8
  have HQ := Lib.hid (fun W hW => H6.out W hW E5.out)
  go_wp2_with fail
  have HMK1 := Lib.hid (fun (W : World) (hW : Below u.heap.size u W) => (⟨⟨(hW.cell (p := ⟨w.heap.size, 4, none⟩) (K.lt)).trans q4, (hW.cell (p := ⟨w.heap.size, 5, none⟩) (K.lt)).trans q5, (hW.cell (p := ⟨w.heap.size, 8, none⟩) (K.lt)).trans q8, (hW.cell (p := ⟨w.heap.size, 9, none⟩) (K.lt)).trans q9⟩, hW⟩ : (W.cell? ⟨w.heap.size, 4, none⟩ = some (.int .i64 hd) ∧ W.cell? ⟨w.heap.size, 5, none⟩ = some (.slice a4 ac.length c4) ∧ W.cell? ⟨w.heap.size, 8, none⟩ = some (.int .i64 ls) ∧ W.cell? ⟨w.heap.size, 9, none⟩ = some (.int .i64 cm)) ∧ Below u.heap.size u W))
  refine wp_region_held_drew (S := (fun w' => (w'.cell? ⟨w.heap.size, 4, none⟩ = some (.int .i64 hd) ∧ w'.cell? ⟨w.heap.size, 5, none⟩ = some (.slice a4 ac.length c4) ∧ w'.cell? ⟨w.heap.size, 8, none⟩ = some (.int .i64 ls) ∧ w'.cell? ⟨w.heap.size, 9, none⟩ = some (.int .i64 cm)) ∧ Below u.heap.size u w')) (by kernel_rfl) ?_ (fun hHeld => ?_)
  · exact ⟨⟨q4, q5, q8, q9⟩, (Below.refl _ _).drew⟩
  refine wpAnyH_take (i := 0) (oi := ?ooa2_) (v := ?vva2_) ?hia2_ (by kernel_rfl) ?h3a2_ ?h4a2_ ?h5a2_ ?h6a2_ (by assumption) ?h8a2_
  case hia2_ => (simp only [List.getElem?_toArray, List.getElem?_cons_succ, List.getElem?_cons_zero]; rfl)
  case h3a2_ => kernel_rfl
  case h4a2_ => kernel_rfl
  case h6a2_ => (refine Or.inl ⟨by rfl, ?_⟩; intro w hSw; (try dsimp only at hSw); (go_simp <;> with_reducible rfl))
  case h5a2_ => exact fun _ _ _ h => h
  try simp only [Act.put, List.setIfInBounds_toArray, List.set_cons_zero, List.set_cons_succ]
  refine wpAnyH_take (i := 1) (oi := ?ooa3_) (v := ?vva3_) ?hia3_ (by kernel_rfl) ?h3a3_ ?h4a3_ ?h5a3_ ?h6a3_ (by assumption) ?h8a3_
  case hia3_ => (simp only [List.getElem?_toArray, List.getElem?_cons_succ, List.getElem?_cons_zero]; rfl)
  case h3a3_ => kernel_rfl
  case h4a3_ => kernel_rfl
  case h6a3_ => (refine Or.inl ⟨by rfl, ?_⟩; intro w hSw; (try dsimp only at hSw); (go_simp <;> with_reducible rfl))
  case h5a3_ => exact fun _ _ _ h => h
  try simp only [Act.put, List.setIfInBounds_toArray, List.set_cons_zero, List.set_cons_succ]
  refine wpAnyH_take (i := 3) (oi := ?ooa4_) (v := ?vva4_) ?hia4_ (by kernel_rfl) ?h3a4_ ?h4a4_ ?h5a4_ ?h6a4_ (by assumption) ?h8a4_
  case hia4_ => (simp only [List.getElem?_toArray, List.getElem?_cons_succ, List.getElem?_cons_zero]; rfl)
  case h3a4_ => kernel_rfl
  case h4a4_ => kernel_rfl
  case h6a4_ => (refine Or.inl ⟨by rfl, ?_⟩; intro w hSw; (try dsimp only at hSw); (go_simp <;> with_reducible rfl))
  case h5a4_ => exact fun _ _ _ h => h
  try simp only [Act.put, List.setIfInBounds_toArray, List.set_cons_zero, List.set_cons_succ]
  refine wpAnyH_take (i := 4) (oi := ?ooa5_) (v := ?vva5_) ?hia5_ (by kernel_rfl) ?h3a5_ ?h4a5_ ?h5a5_ ?h6a5_ (by assumption) ?h8a5_
  case hia5_ => (simp only [List.getElem?_toArray, List.getElem?_cons_succ, List.getElem?_cons_zero]; rfl)
  case h3a5_ => kernel_rfl
  case h4a5_ => kernel_rfl
  case h6a5_ => (refine Or.inl ⟨by rfl, ?_⟩; intro w hSw; (try dsimp only at hSw); (go_simp <;> with_reducible rfl))
  case h5a5_ => exact fun _ _ _ h => h
  try simp only [Act.put, List.setIfInBounds_toArray, List.set_cons_zero, List.set_cons_succ]
  refine wpAnyH_take (i := 5) (oi := ?ooa6_) (v := ?vva6_) ?hia6_ (by kernel_rfl) ?h3a6_ ?h4a6_ ?h5a6_ ?h6a6_ (by assumption) ?h8a6_
  case hia6_ => (simp only [List.getElem?_toArray, List.getElem?_cons_succ, List.getElem?_cons_zero]; rfl)
  case h3a6_ => kernel_rfl
  case h4a6_ => kernel_rfl
  case h6a6_ => (refine Or.inl ⟨by rfl, ?_⟩; intro w hSw; (try dsimp only at hSw); (go_simp <;> with_reducible rfl))
  case h5a6_ => exact fun _ _ _ h => h
  try simp only [Act.put, List.setIfInBounds_toArray, List.set_cons_zero, List.set_cons_succ]
  refine wpAnyH_take (i := 7) (oi := ?ooa7_) (v := ?vva7_) ?hia7_ (by kernel_rfl) ?h3a7_ ?h4a7_ ?h5a7_ ?h6a7_ (by assumption) ?h8a7_
  case hia7_ => (simp only [List.getElem?_toArray, List.getElem?_cons_succ, List.getElem?_cons_zero]; rfl)
  case h3a7_ => kernel_rfl
  case h4a7_ => kernel_rfl
  case h6a7_ => (refine Or.inl ⟨by rfl, ?_⟩; intro w hSw; (try dsimp only at hSw); (go_simp <;> with_reducible rfl))
  case h5a7_ => exact fun _ _ _ h => h
  try simp only [Act.put, List.setIfInBounds_toArray, List.set_cons_zero, List.set_cons_succ]
  refine wpAnyH_take (i := 8) (oi := ?ooa8_) (v := ?vva8_) ?hia8_ (by kernel_rfl) ?h3a8_ ?h4a8_ ?h5a8_ ?h6a8_ (by assumption) ?h8a8_
  case hia8_ => (simp only [List.getElem?_toArray, List.getElem?_cons_succ, List.getElem?_cons_zero]; rfl)
  case h3a8_ => kernel_rfl
  case h4a8_ => kernel_rfl
  case h6a8_ => (refine Or.inl ⟨by rfl, ?_⟩; intro w hSw; (try dsimp only at hSw); (go_simp <;> with_reducible rfl))
  case h5a8_ => exact fun _ _ _ h => h
  try simp only [Act.put, List.setIfInBounds_toArray, List.set_cons_zero, List.set_cons_succ]
  refine wpAnyH_take (i := 10) (oi := ?ooa9_) (v := ?vva9_) ?hia9_ (by kernel_rfl) ?h3a9_ ?h4a9_ ?h5a9_ ?h6a9_ (by assumption) ?h8a9_
  case hia9_ => (simp only [List.getElem?_toArray, List.getElem?_cons_succ, List.getElem?_cons_zero]; rfl)
  case h3a9_ => kernel_rfl
  case h4a9_ => kernel_rfl
  case h6a9_ => (refine Or.inl ⟨by rfl, ?_⟩; intro w hSw; (try dsimp only at hSw); (go_simp <;> with_reducible rfl))
  case h5a9_ => exact fun _ _ _ h => h
  try simp only [Act.put, List.setIfInBounds_toArray, List.set_cons_zero, List.set_cons_succ]
  refine wpAnyH_take (i := 11) (oi := ?ooa10_) (v := ?vva10_) ?hia10_ (by kernel_rfl) ?h3a10_ ?h4a10_ ?h5a10_ ?h6a10_ (by assumption) ?h8a10_
  case hia10_ => (simp only [List.getElem?_toArray, List.getElem?_cons_succ, List.getElem?_cons_zero]; rfl)
  case h3a10_ => kernel_rfl
  case h4a10_ => kernel_rfl
  case h6a10_ => (refine Or.inl ⟨by rfl, ?_⟩; intro w hSw; (try dsimp only at hSw); (go_simp <;> with_reducible rfl))
  case h5a10_ => exact fun _ _ _ h => h
  try simp only [Act.put, List.setIfInBounds_toArray, List.set_cons_zero, List.set_cons_succ]
  refine wpAnyH_ready (rs := [2]) (by kernel_rfl) (by simp) (AllReadyH.cons (o := ?ooa11_q0) ?hia11_q0 (fun K hK => ?hka11_q0) AllReadyH.nil)
  case hia11_q0 => (simp only [List.getElem?_toArray, List.getElem?_cons_succ, List.getElem?_cons_zero]; rfl)
  case hka11_q0 =>
    (rw [if_pos (by rfl)]; go_simp; refine (HQ.out _ (bel_tr B hHeld.2)).mono ?_; rintro e w2_ ⟨rfl, hb⟩; go_wp2_with fail; refine hK.out _ _ (HMK1.out _ (bel_tr hHeld.2 hb)) (fun hHeld => ?_); clear hK K)
    try simp only [Act.put, List.setIfInBounds_toArray, List.set_cons_zero, List.set_cons_succ]
    refine wpAnyH_take (i := 6) (oi := ?ooa12_) (v := ?vva12_) ?hia12_ (by kernel_rfl) ?h3a12_ ?h4a12_ ?h5a12_ ?h6a12_ (by assumption) ?h8a12_
    case hia12_ => (simp only [List.getElem?_toArray, List.getElem?_cons_succ, List.getElem?_cons_zero]; rfl)
    case h3a12_ => kernel_rfl
    case h4a12_ => kernel_rfl
    case h6a12_ => (refine Or.inl ⟨by rfl, ?_⟩; intro w hSw; (try dsimp only at hSw); (go_simp <;> with_reducible rfl))
    case h5a12_ => exact fun _ _ _ h => h
    try simp only [Act.put, List.setIfInBounds_toArray, List.set_cons_zero, List.set_cons_succ]
    refine wpAnyH_take (i := 9) (oi := ?ooa13_) (v := ?vva13_) ?hia13_ (by kernel_rfl) ?h3a13_ ?h4a13_ ?h5a13_ ?h6a13_ (by assumption) ?h8a13_
    case hia13_ => (simp only [List.getElem?_toArray, List.getElem?_cons_succ, List.getElem?_cons_zero]; rfl)
    case h3a13_ => kernel_rfl
    case h4a13_ => kernel_rfl
    case h6a13_ => (refine Or.inl ⟨by rfl, ?_⟩; intro w hSw; (try dsimp only at hSw); (go_simp <;> with_reducible rfl))
    case h5a13_ => exact fun _ _ _ h => h
    try simp only [Act.put, List.setIfInBounds_toArray, List.set_cons_zero, List.set_cons_succ]
    refine wpAnyH_take (i := 12) (oi := ?ooa14_) (v := ?vva14_) ?hia14_ (by kernel_rfl) ?h3a14_ ?h4a14_ ?h5a14_ ?h6a14_ (by assumption) ?h8a14_
    case hia14_ => (simp only [List.getElem?_toArray, List.getElem?_cons_succ, List.getElem?_cons_zero]; rfl)
    case h3a14_ => kernel_rfl
    case h4a14_ => kernel_rfl
    case h6a14_ => (refine Or.inl ⟨by rfl, ?_⟩; intro w hSw; (try dsimp only at hSw); (go_simp <;> with_reducible rfl))
    case h5a14_ => exact fun _ _ _ h => h
    try simp only [Act.put, List.setIfInBounds_toArray, List.set_cons_zero, List.set_cons_succ]
    refine wpAnyH_take (i := 13) (oi := ?ooa15_) (v := ?vva15_) ?hia15_ (by kernel_rfl) ?h3a15_ ?h4a15_ ?h5a15_ ?h6a15_ (by assumption) ?h8a15_
    case hia15_ => (simp only [List.getElem?_toArray, List.getElem?_cons_succ, List.getElem?_cons_zero]; rfl)
    case h3a15_ => kernel_rfl
    case h4a15_ => kernel_rfl
    case h6a15_ => (refine Or.inl ⟨by rfl, ?_⟩; intro w hSw; (try dsimp only at hSw); (go_simp <;> with_reducible rfl))
    case h5a15_ => exact fun _ _ _ h => h
    try simp only [Act.put, List.setIfInBounds_toArray, List.set_cons_zero, List.set_cons_succ]
    refine wpAnyH_done (by kernel_rfl) ?_ _
    clear HMK1
    have B2 := bel_tr B hHeld.2
    clear hHeld
    go_wp2_with fail
    go_ret
    exact ⟨itown_last R HR.out.symm, B2⟩
/-- spec.validBasin -/
theorem svb (r h : Int) (w : World) :
    Calls Try.prog 138 #[.agg #[.int .i64 r, .int .i64 h]] w fun e w' => e = .returned (.bool (vbB r h)) ∧ Below w.heap.size w w' := by
  by_cases a : r < 0 ∨ 20000 < r
  · rw [vb_no (by omega)]
    go_enter Try.func138, Try.ntmps138
    go_wp2_with fail
    refine (inRange_no r 0 20000 _ a).mono ?_
    rintro e w' ⟨rfl, rfl⟩
    go_wp2_with fail
    go_ret
    exact ⟨rfl, by go_grown⟩
  · have a1 : 0 ≤ r := by omega
    have a2 : r ≤ 20000 := by omega
    by_cases b : h < 0 ∨ r < h
    · rw [vb_no (by omega)]
      clear a
      go_enter Try.func138, Try.ntmps138
      go_wp2_with fail
      refine (inRange_yes r 0 20000 _ a1 a2).mono ?_
      rintro e w' ⟨rfl, rfl⟩
      go_wp2_with fail
      refine (inRange_no h 0 r _ b).mono ?_
      rintro e w' ⟨rfl, rfl⟩
      go_wp2_with fail
      go_ret
      exact ⟨rfl, by go_grown⟩
    · have b1 : 0 ≤ h := by omega
      have b2 : h ≤ r := by omega
      rw [vb_iff.2 ⟨a1, a2, b1, b2⟩]
      clear a b
      go_enter Try.func138, Try.ntmps138
      go_wp2_with fail
      refine (inRange_yes r 0 20000 _ a1 a2).mono ?_
      rintro e w' ⟨rfl, rfl⟩
      go_wp2_with fail
      refine (inRange_yes h 0 r _ b1 b2).mono ?_
      rintro e w' ⟨rfl, rfl⟩
      go_wp2_with fail
      go_ret
      exact ⟨rfl, by go_grown⟩
/-- spec.hour -/
theorem sHour (r hd c q : Int) (w : World) (hv : vbB r hd = true) (h1 : 0 ≤ c ∧ c ≤ 500) (h2 : 0 ≤ q ∧ q ≤ 500) :
    Calls Try.prog 189 #[.agg #[.int .i64 r, .int .i64 hd], .int .i64 c, .int .i64 q] w fun e w' => e = .returned (.tuple #[.agg #[.int .i64 r, .int .i64 (stepH r hd c q)], .int .i64 (giveH hd c q), .int .i64 (spillH r hd c q)]) ∧ Below w.heap.size w w' := by
  obtain ⟨r0, r1, r2, r3⟩ := vb_iff.1 hv
  obtain ⟨c0, c1⟩ := h1
  obtain ⟨q0, q1⟩ := h2
  clear hv
  by_cases e1 : q ≤ hd + c
  · by_cases e2 : r ≤ hd + c - q
    · have hg : giveH hd c q = q := by unfold giveH; omega
      have hs : stepH r hd c q = r := by unfold stepH; rw [hg]; omega
      have hsp : spillH r hd c q = hd + c - q - (r) := by unfold spillH; rw [hs, hg]
      rw [hsp, hg, hs]
      clear hg hs hsp
      go_enter Try.func189, Try.ntmps189
      go_wp2_with fail
      go_region
      all_goals (
        go_wp2_with fail
        refine bodyPost_ret (v := .tuple #[.agg #[.int .i64 r, .int .i64 r], .int .i64 q, .int .i64 (hd + c - q - r)]) (by simp [results, Try.results189, go_sem]) rfl ⟨rfl, by go_grown⟩)
    · have hg : giveH hd c q = q := by unfold giveH; omega
      have hs : stepH r hd c q = hd + c - q := by unfold stepH; rw [hg]; omega
      have hsp : spillH r hd c q = hd + c - q - (hd + c - q) := by unfold spillH; rw [hs, hg]
      rw [hsp, hg, hs]
      clear hg hs hsp
      go_enter Try.func189, Try.ntmps189
      go_wp2_with fail
      go_region
      all_goals (
        go_wp2_with fail
        refine bodyPost_ret (v := .tuple #[.agg #[.int .i64 r, .int .i64 (hd + c - q)], .int .i64 q, .int .i64 (hd + c - q - (hd + c - q))]) (by simp [results, Try.results189, go_sem]) rfl ⟨rfl, by go_grown⟩)
  · by_cases e2 : r ≤ hd + c - (hd + c)
    · have hg : giveH hd c q = (hd + c) := by unfold giveH; omega
      have hs : stepH r hd c q = r := by unfold stepH; rw [hg]; omega
      have hsp : spillH r hd c q = hd + c - (hd + c) - (r) := by unfold spillH; rw [hs, hg]
      rw [hsp, hg, hs]
      clear hg hs hsp
      go_enter Try.func189, Try.ntmps189
      go_wp2_with fail
      go_region
      all_goals (
        go_wp2_with fail
        refine bodyPost_ret (v := .tuple #[.agg #[.int .i64 r, .int .i64 r], .int .i64 (hd + c), .int .i64 (hd + c - (hd + c) - r)]) (by simp [results, Try.results189, go_sem]) rfl ⟨rfl, by go_grown⟩)
    · have hg : giveH hd c q = (hd + c) := by unfold giveH; omega
      have hs : stepH r hd c q = hd + c - (hd + c) := by unfold stepH; rw [hg]; omega
      have hsp : spillH r hd c q = hd + c - (hd + c) - (hd + c - (hd + c)) := by unfold spillH; rw [hs, hg]
      rw [hsp, hg, hs]
      clear hg hs hsp
      go_enter Try.func189, Try.ntmps189
      go_wp2_with fail
      go_region
      all_goals (
        go_wp2_with fail
        refine bodyPost_ret (v := .tuple #[.agg #[.int .i64 r, .int .i64 (hd + c - (hd + c))], .int .i64 (hd + c), .int .i64 (hd + c - (hd + c) - (hd + c - (hd + c)))]) (by simp [results, Try.results189, go_sem]) rfl ⟨rfl, by go_grown⟩)
theorem infoBool : (Try.prog.info? 4).map (fun i => (i.zero, i.size, i.bytes)) = some (some (.bool false), 1, 1) := by kernel_rfl
theorem below_ns {w w' : World} (h : Below w.heap.size w w') (row : Option Nat) : w.grownBy w' row := g_below h row
/-- a row of marks: true where the number is less than 0 -/
def Given (w : World) (g : Nat) (D : List Int) (m : Nat) : Prop := w.rowIs g 4 m (fun i => .bool (decide (D.getD i 0 < 0)))
theorem given_keep {w w' : World} {g m : Nat} {D : List Int} (h : Given w g D m) (hB : Below w.heap.size w w') : Given w' g D m := World.rowIs.of_block h (hB.block g (World.rowIs.lt h))
theorem given_skip {w : World} {g g' m : Nat} {D : List Int} (h : Given w g D m) (k : Nat) (v : Value) (hne : g' ≠ g) : Given (w.setCell ⟨g', k, none⟩ v) g D m :=
  World.rowIs.of_block h (Below.heap_setCell w ⟨g', k, none⟩ v g (fun e => by first | exact hne e | exact hne e.symm))
theorem given_set {w : World} {g m : Nat} {D : List Int} (h : Given w g D m) (k : Nat) (hk : k < D.length) : Given (w.setCell ⟨g, k, none⟩ (.bool true)) g (D.set k (-1)) m :=
  (World.rowIs.set h k (.bool true)).congr (fun j hj => by
    show (if j = k then Value.bool true else .bool (decide (D.getD j 0 < 0))) = _
    rw [getD_set _ _ _ hk]; split <;> rfl)
/-- what a division leaves, read -/
def DivS (m : Nat) (R : List Int) (w : World) (e : Ending) (w' : World) : Prop := ∃ (b : Option Addr) (cap : Nat), e = .returned (.slice b m cap) ∧ IsInts w' b R ∧ Below w.heap.size w w'
theorem stotalN (m : Nat) (a : Option Addr) (cap : Nat) (zs : List Int) (w : World) (hl : zs.length = m) (h : IsInts w a zs) (hn : m ≤ 1048576) (hz : ∀ z ∈ zs, -1000000 ≤ z ∧ z ≤ 1000000) :
    Calls Try.prog 158 #[.slice a m cap] w fun e w' => e = .returned (.int .i64 zs.sum) ∧ w = w' := by
  subst hl; exact stotal a cap zs w h hn hz
theorem q_all {n : Int} {ws : List Int} (hcs : csB n ws = true) : ∀ z ∈ qs n ws, -1000000 ≤ z ∧ z ≤ 1000000 := fun z hz => by
  obtain ⟨i, hi, rfl⟩ := List.getElem_of_mem hz
  have hql := qs_len n ws
  have := q_le hcs (i := i) (by omega)
  rw [List.getD_eq_getElem?_getD, List.getElem?_eq_getElem hi] at this
  simp at this; omega
theorem own_isints {w : World} {base g n cap : Nat} {zs : List Int} (h : w.ownsRow base 3 1 (.slice (some ⟨g, 0, none⟩) n cap) n (zs.map (Value.int .i64))) (hl : zs.length = n) : IsInts w (some ⟨g, 0, none⟩) zs := by
  subst hl
  obtain ⟨b, c, hv, hi⟩ := own_ints h
  injection hv with h1 h2 h3
  rw [h1]; exact hi
def okD (D : List Int) (i : Nat) : Bool := decide (0 ≤ D.getD i 0)
theorem pickD_is (D : List Int) (hm : ∀ i, i < D.length → -1 ≤ D.getD i 0) {m : Nat} (hl : D.length = m) : ∀ k, k ≤ m → (pickS (okD D) (moreB D) k = -1 ∧ pickB (moreB D) k = 0 ∧ ∀ j, j < k → okD D j = false) ∨ (pickS (okD D) (moreB D) k = (pickB (moreB D) k : Nat) ∧ okD D (pickB (moreB D) k) = true ∧ pickB (moreB D) k < k) := by
  subst hl
  refine pickS_is (okD D) (moreB D) D.length (fun i b hi hb h1 h2 => ?_) (fun i b hi hb h1 => ?_)
  · unfold okD at h1 h2; unfold moreB
    simp at h1 h2 ⊢; omega
  · have a := hm i hi
    have b := hm b hb
    unfold okD at h1; unfold moreB
    simp only [decide_eq_false_iff_not] at h1 ⊢; omega
theorem pickS_skip (D : List Int) (k : Nat) (h : D.getD k 0 < 0) : pickS (okD D) (moreB D) (k + 1) = pickS (okD D) (moreB D) k := by
  show (if okD D k && _ then (k : Int) else pickS (okD D) (moreB D) k) = _
  have : okD D k = false := by unfold okD; exact decide_eq_false (by omega)
  rw [this]; simp
theorem pickS_first (D : List Int) (k : Nat) (h : ¬ D.getD k 0 < 0) (h1 : pickS (okD D) (moreB D) k = -1) : pickS (okD D) (moreB D) (k + 1) = k := by
  show (if okD D k && (decide (pickS (okD D) (moreB D) k < 0) || _) then (k : Int) else pickS (okD D) (moreB D) k) = _
  have : okD D k = true := by unfold okD; exact decide_eq_true (by omega)
  rw [this, h1]; simp
theorem pickS_next (D : List Int) (k b : Nat) (h : ¬ D.getD k 0 < 0) (h1 : pickS (okD D) (moreB D) k = (b : Int)) : pickS (okD D) (moreB D) (k + 1) = if D.getD b 0 < D.getD k 0 then (k : Int) else b := by
  show (if okD D k && (decide (pickS (okD D) (moreB D) k < 0) || moreB D k (pickS (okD D) (moreB D) k).toNat) then (k : Int) else pickS (okD D) (moreB D) k) = _
  have : okD D k = true := by unfold okD; exact decide_eq_true (by omega)
  rw [this, h1]
  have e : decide ((b : Int) < 0) = false := by simp
  rw [e, Int.toNat_natCast]
  unfold moreB
  simp
theorem sbyRest (n : Int) (a : Option Addr) (cap : Nat) (ws : List Int) (w : World) (h : IsInts w a ws) (hn : ws.length ≤ 1048576) (hcs : csB n ws = true) :
    Calls Try.prog 187 #[.int .i64 n, .slice a ws.length cap] w (DivS ws.length (sr n ws) w) := by
  obtain ⟨⟨n0, n1⟩, hv⟩ := cs_yes hcs
  have h0 := h
  rcases h with rfl | ⟨g, o, rfl, hc⟩
  · exact absurd (vw_is hv).2.2 (by simp)
  · have hmk := run_make_row' (P := Try.prog) 184 4 (.bool false) 1 Try.underlying184 infoBool rfl .i64 .i64 ws.length (by omega) (by omega)
    obtain ⟨s0, s1⟩ := ws_bd hv
    have l12 := (vw_is hv).2.1
    have l1 := ws_ne hv
    have HZ := Lib.hid (all_bd (vw_is hv).1 (by omega))
    have HQ := Lib.hid (q_all hcs)
    have HC := Lib.hid hc
    have HK := Lib.hid hcs
    have H0 := Lib.hid h0
    have hql := qs_len n ws
    have HL := Lib.hid (left_is hcs)
    obtain ⟨q0, q1⟩ := q_sum hcs
    have hL500 : leftOf n ws ≤ 500 := by have := left_is hcs; omega
    clear hc hv h0 hcs
    go_enter Try.func187, Try.ntmps187
    go_wp2_with fail
    refine (squotasO n _ cap ws _ H0.out hn HK.out).mono ?_
    rintro e w1 ⟨v, rfl, ho, hB1⟩
    obtain ⟨go, co, rfl, lgo, lt1⟩ := ho.form l1
    have HO := Lib.hid ho
    have HB := Lib.hid hB1
    clear ho hB1
    go_wp2_with fail
    refine (stotal _ cap ws _ (ints_below H0.out HB.out) hn HZ.out).mono ?_
    rintro e w' ⟨rfl, rfl⟩
    go_wp2_with fail
    have gne : go ≠ w1.heap.size := by omega
    have HO2 := Lib.hid (HO.out.alloc (.cells (madeCells #[.bool false] ws.length) 4))
    have HB2 := Lib.hid (HB.out.alloc HB.out.size (.cells (madeCells #[.bool false] ws.length) 4))
    have HG := Lib.hid (World.rowIs_made w1 (.bool false) ws.length 4)
    clear hmk
    refine (stotalN ws.length _ _ (qs n ws) _ hql (own_isints HO2.out hql) hn HQ.out).mono ?_
    rintro e w' ⟨rfl, rfl⟩
    go_wp2_with fail
    go_loopw [8] (fun l wr => ∃ j : Nat, j ≤ leftOf n ws ∧ l = .int .i64 ((leftOf n ws : Int) - j) ∧ wr.ownsRow w.heap.size 3 1 (.slice (some ⟨go, 0, none⟩) ws.length co) ws.length ((restTo n ws j).1.map (Value.int .i64)) ∧ Given wr w1.heap.size (restTo n ws j).2 ws.length ∧ Below w.heap.size w wr) (fun l _ => (intOf l).toNat)
    case atStart =>
      refine ⟨0, Nat.zero_le _, by rw [HL.out]; go_num, HO2.out, HG.out.congr (fun i hi => ?_), HB2.out⟩
      have := rsts_bd HK.out hi
      show Value.bool false = .bool (decide ((rsts n ws).getD i 0 < 0))
      rw [decide_eq_false (by omega)]
    case round =>
      obtain ⟨j, hj, rfl, RG, RD, hB⟩ := hrel
      by_cases hjl : j < leftOf n ws
      · have RJ := rest_is HK.out j hj
        obtain ⟨hb, hpos⟩ := rest_best HK.out RJ hjl
        have hy : 0 ≤ (restTo n ws j).1.getD (pickB (moreB (restTo n ws j).2) ws.length) 0 ∧ (restTo n ws j).1.getD (pickB (moreB (restTo n ws j).2) ws.length) 0 ≤ 500001 := by
          have := q_le HK.out hb
          rcases RJ.each _ hb with h | h <;> omega
        have hD : ∀ i, i < ws.length → -1 ≤ (restTo n ws j).2.getD i 0 ∧ (0 ≤ (restTo n ws j).2.getD i 0 → (restTo n ws j).2.getD i 0 = n * ws.getD i 0 % ws.sum) := fun i hi => by
          have := rsts_bd HK.out hi
          have e := rsts_get n ws hi
          rcases RJ.each i hi with h | h
          · omega
          · omega
        obtain ⟨lG, lD⟩ := restTo_len n ws j
        have e1 := restTo_succ1 n ws j
        have e2 := restTo_succ2 n ws j
        obtain ⟨G', hG'⟩ : ∃ G', (restTo n ws (j + 1)).1 = G' := ⟨_, rfl⟩
        obtain ⟨D', hD'⟩ : ∃ D', (restTo n ws (j + 1)).2 = D' := ⟨_, rfl⟩
        rw [hG'] at e1
        rw [hD'] at e2
        have HGD := Lib.hid (And.intro hG' hD')
        clear hG' hD' RJ
        generalize (restTo n ws j).1 = G at *
        generalize (restTo n ws j).2 = D at *
        have HD := Lib.hid hD
        have HP := Lib.hid (pickD_is D (fun i hi => (hD i (by omega)).1) lD)
        have HRG := Lib.hid RG
        have HRD := Lib.hid RD
        have HBB := Lib.hid hB
        have HE := Lib.hid (And.intro e1 e2)
        have hpk : pickS (okD D) (moreB D) ws.length = (pickB (moreB D) ws.length : Nat) := by
          rcases HP.out ws.length (Nat.le_refl _) with ⟨_, b0, hno⟩ | ⟨h, _⟩
          · have := hno _ hb
            unfold okD at this
            simp only [decide_eq_false_iff_not] at this
            omega
          · exact h
        have HPK := Lib.hid hpk
        clear RG RD hB e1 e2 hD hpk hpos
        go_wp2_with fail
        go_loopw [9, 10] (fun b i wi => ∃ k : Nat, k ≤ ws.length ∧ i = .int .i64 k ∧ b = .int .i64 (pickS (okD D) (moreB D) k) ∧ Below wr.heap.size wr wi) (fun _ i _ => ws.length - (intOf i).toNat)
        case atStart => exact ⟨0, Nat.zero_le _, rfl, rfl, Below.refl _ _⟩
        case round =>
          obtain ⟨k, hk, rfl, hbest, hBi⟩ := hrel
          by_cases hlt : k < ws.length
          · have hcell := World.rowIs.cell (given_keep HRD.out hBi) hlt
            have i0 : (0 : Int) ≤ (k : Int) := by omega
            have i1 : (k : Int) < (ws.length : Int) := by omega
            by_cases hd : D.getD k 0 < 0
            · rw [decide_eq_true hd] at hcell
              have HS := Lib.hid (pickS_skip D k hd)
              subst hbest
              go_wp2_with fail
              go_quiet (fail)
              go_wp2
              go_roundw
              case rel => exact ⟨k + 1, by omega, by go_num, by rw [HS.out], below_drewN hBi _⟩
              case measure => simp [intOf]; omega
            · rw [decide_eq_false hd] at hcell
              rcases HP.out k hk with ⟨p1, _, _⟩ | ⟨p1, p2, p3⟩
              · have HS := Lib.hid (pickS_first D k hd p1)
                rw [p1] at hbest
                subst hbest
                clear p1
                go_wp2_with fail
                go_quiet (fail)
                go_wp2
                go_roundw
                case rel => exact ⟨k + 1, by omega, by go_num, by rw [HS.out], below_drewN hBi _⟩
                case measure => simp [intOf]; omega
              · have HS := Lib.hid (pickS_next D k _ hd p1)
                rw [p1] at hbest
                subst hbest
                have hB2 := bel_tr HBB.out hBi
                have hc := (hB2.cell (p := ⟨g, o + k, none⟩) (World.block_lt_of_cell? w _ (HC.out k hlt))).trans (HC.out k hlt)
                have hc2 := (hB2.cell (p := ⟨g, o + pickB (moreB D) k, none⟩) (World.block_lt_of_cell? w _ (HC.out _ (by omega)))).trans (HC.out _ (by omega))
                have d1 := (HD.out k hlt).2 (by omega)
                unfold okD at p2
                simp only [decide_eq_true_eq] at p2
                have d2 := (HD.out (pickB (moreB D) k) (by omega)).2 p2
                rw [d1, d2] at HS
                obtain ⟨z0, z1, z2, z3⟩ := q_bd HK.out hlt
                obtain ⟨y0, y1, y2, y3⟩ := q_bd HK.out (show pickB (moreB D) k < ws.length by omega)
                have i2 : (0 : Int) ≤ (pickB (moreB D) k : Int) := by omega
                have i3 : (pickB (moreB D) k : Int) < (ws.length : Int) := by omega
                have i4 : decide ((pickB (moreB D) k : Int) < 0) = false := decide_eq_false (by omega)
                clear d1 d2 p1 p2 hd hB2
                generalize pickB (moreB D) k = b at *
                generalize ws.getD k 0 = z at *
                generalize ws.getD b 0 = y at *
                have t1 : (n * z).tmod ws.sum = n * z % ws.sum := Int.tmod_eq_emod_of_nonneg z2
                have t2 : (n * y).tmod ws.sum = n * y % ws.sum := Int.tmod_eq_emod_of_nonneg y2
                have t3 : IntKind.i64.wrap (n * z) = n * z := by rw [IntKind.wrap_i64]; omega
                have t4 : IntKind.i64.wrap (n * y) = n * y := by rw [IntKind.wrap_i64]; omega
                by_cases hzy : n * y % ws.sum < n * z % ws.sum
                · rw [if_pos hzy] at HS
                  go_wp2_with fail
                  go_quiet (fail)
                  go_wp2
                  go_roundw
                  case rel => exact ⟨k + 1, by omega, by go_num, by rw [HS.out], below_drewN hBi _⟩
                  case measure => simp [intOf]; omega
                · rw [if_neg hzy] at HS
                  go_wp2_with fail
                  go_quiet (fail)
                  go_wp2
                  go_roundw
                  case rel => exact ⟨k + 1, by omega, by go_num, by rw [HS.out], below_drewN hBi _⟩
                  case measure => simp [intOf]; omega
          · have ek : k = ws.length := by omega
            subst ek
            rw [HPK.out] at hbest
            subst hbest
            clear HPK HP HD
            have RG := HRG.out.kept (below_ns hBi none) (.inr (by simp [Value.ownBlock]))
            have RD := given_keep HRD.out hBi
            have hB2 := bel_tr HBB.out hBi
            have hlen : (G.map (Value.int .i64)).length = ws.length := by simp [lG]
            have hx := RG.cellAt (pickB (moreB D) ws.length) (by omega)
            obtain ⟨E1, E2⟩ := HE.out
            generalize pickB (moreB D) ws.length = b at *
            have hgv : (G.map (Value.int .i64))[b]? = some (.int .i64 (G.getD b 0)) := by
              rw [List.getElem?_map, List.getD_eq_getElem?_getD, List.getElem?_eq_getElem (by omega)]; rfl
            rw [hgv] at hx
            have hf := RG.frozenAt b
            have hf2 := World.rowIs.frozen RD b
            have hz := World.rowIs.cell RD hb
            have hx2 := so (v := .bool true) (show (⟨w1.heap.size, b, none⟩ : Addr) ≠ ⟨go, b, none⟩ from fun e => gne (by injection e with e; exact e.symm)) hx
            have i0 : (0 : Int) ≤ (b : Int) := by omega
            have i1 : (b : Int) < (ws.length : Int) := by omega
            have sG := ((RG.kept (row := some w1.heap.size) (g_set (p := ⟨w1.heap.size, b, none⟩) (g_below (Below.refl _ wr) _) (.inl rfl) (.bool true)) (.inr (by simp [Value.ownBlock]; exact gne))).stored b (.int .i64 (G.getD b 0 + 1))).1
            rw [show (G.map (Value.int .i64)).set b (.int .i64 (G.getD b 0 + 1)) = (G.set b (G.getD b 0 + 1)).map (Value.int .i64) by rw [List.map_set], ← E1] at sG
            have sD := given_skip (given_set RD b (by omega)) b (.int .i64 (G.getD b 0 + 1)) gne
            rw [← E2] at sD
            have sB : Below w.heap.size w ((wr.setCell ⟨w1.heap.size, b, none⟩ (.bool true)).setCell ⟨go, b, none⟩ (.int .i64 (G.getD b 0 + 1))) := (hB2.setCell (by exact HB.out.size) _).setCell lgo _
            have HS := Lib.hid (And.intro sG (And.intro sD sB))
            clear sG sD sB RG RD hB2 E1 E2 HE HRG HRD HBB hgv hlen
            generalize G.getD b 0 = y at *
            go_wp2
            go_roundw
            case rel => exact ⟨j + 1, by omega, by go_num, by rw [HGD.out.1]; exact HS.out.1, by rw [HGD.out.2]; exact HS.out.2.1, HS.out.2.2⟩
            case measure => simp [intOf]; omega
      · have e : j = leftOf n ws := by omega
        subst e
        go_wp2
        go_ret
        exact ⟨some ⟨go, 0, none⟩, co, rfl, own_isints RG (sr_len n ws), hB⟩
def okWa (ws : List Int) (i : Nat) : Bool := decide (0 < ws.getD i 0)
theorem pickW_is (step : Int) (ws gs : List Int) (m : Nat) (h1 : ∀ i, i < m → 0 ≤ ws.getD i 0) (h2 : ∀ i, i < m → 0 < step * gs.getD i 0 + 1) :
    ∀ k, k ≤ m → (pickS (okWa ws) (avgB step ws gs) k = -1 ∧ pickB (avgB step ws gs) k = 0 ∧ ∀ j, j < k → okWa ws j = false) ∨ (pickS (okWa ws) (avgB step ws gs) k = (pickB (avgB step ws gs) k : Nat) ∧ okWa ws (pickB (avgB step ws gs) k) = true ∧ pickB (avgB step ws gs) k < k) := by
  refine pickS_is (okWa ws) (avgB step ws gs) m (fun i b hi hb a1 a2 => ?_) (fun i b hi hb a1 => ?_)
  · unfold okWa at a1 a2; unfold avgB
    simp only [decide_eq_true_eq, decide_eq_false_iff_not] at a1 a2 ⊢
    have e : ws.getD b 0 = 0 := by have := h1 b hb; omega
    rw [e, Int.zero_mul]
    exact Int.mul_pos a1 (h2 b hb)
  · unfold okWa at a1; unfold avgB
    simp only [decide_eq_false_iff_not] at a1 ⊢
    have e : ws.getD i 0 = 0 := by have := h1 i hi; omega
    rw [e, Int.zero_mul]
    have := Int.mul_nonneg (h1 b hb) (Int.le_of_lt (h2 i hi))
    omega
theorem pickW_skip (step : Int) (ws gs : List Int) (k : Nat) (h : ¬ 0 < ws.getD k 0) : pickS (okWa ws) (avgB step ws gs) (k + 1) = pickS (okWa ws) (avgB step ws gs) k := by
  show (if okWa ws k && _ then (k : Int) else pickS (okWa ws) (avgB step ws gs) k) = _
  have : okWa ws k = false := by unfold okWa; exact decide_eq_false (by omega)
  rw [this]; simp
theorem pickW_first (step : Int) (ws gs : List Int) (k : Nat) (h : 0 < ws.getD k 0) (h1 : pickS (okWa ws) (avgB step ws gs) k = -1) : pickS (okWa ws) (avgB step ws gs) (k + 1) = k := by
  show (if okWa ws k && (decide (pickS (okWa ws) (avgB step ws gs) k < 0) || _) then (k : Int) else pickS (okWa ws) (avgB step ws gs) k) = _
  have : okWa ws k = true := by unfold okWa; exact decide_eq_true h
  rw [this, h1]; simp
theorem pickW_next (step : Int) (ws gs : List Int) (k b : Nat) (h : 0 < ws.getD k 0) (h1 : pickS (okWa ws) (avgB step ws gs) k = (b : Int)) : pickS (okWa ws) (avgB step ws gs) (k + 1) = if ws.getD b 0 * (step * gs.getD k 0 + 1) < ws.getD k 0 * (step * gs.getD b 0 + 1) then (k : Int) else b := by
  show (if okWa ws k && (decide (pickS (okWa ws) (avgB step ws gs) k < 0) || avgB step ws gs k (pickS (okWa ws) (avgB step ws gs) k).toNat) then (k : Int) else pickS (okWa ws) (avgB step ws gs) k) = _
  have : okWa ws k = true := by unfold okWa; exact decide_eq_true h
  rw [this, h1]
  have e : decide ((b : Int) < 0) = false := by simp
  rw [e, Int.toNat_natCast]
  unfold avgB
  simp
theorem sbyAvg (step n : Int) (a : Option Addr) (cap : Nat) (ws : List Int) (w : World) (h : IsInts w a ws) (hn : ws.length ≤ 1048576) (hs : 1 ≤ step ∧ step ≤ 2) (hcs : csB n ws = true) :
    Calls Try.prog 200 #[.int .i64 n, .slice a ws.length cap, .int .i64 step, .int .i64 1] w (Divd ws.length (sa step n ws) w) := by
  obtain ⟨⟨n0, n1⟩, hv⟩ := cs_yes hcs
  rcases h with rfl | ⟨g, o, rfl, hc⟩
  · exact absurd (vw_is hv).2.2 (by simp)
  · have hmk := run_make_row' (P := Try.prog) 59 3 (.int .i64 0) 8 Try.underlying59 infoInt rfl .i64 .i64 ws.length (by omega) (by omega)
    have l1 := ws_ne hv
    have HV := Lib.hid hv
    have HK := Lib.hid hcs
    have HC := Lib.hid hc
    clear hv hcs hc
    go_enter Try.func200, Try.ntmps200
    go_wp2_with fail
    clear hmk
    go_loopw [10] (fun l wr => ∃ j : Nat, j ≤ n.toNat ∧ l = .int .i64 j ∧ Row wr w.heap.size (avgTo step ws j) ∧ Below w.heap.size w wr) (fun l _ => (n - intOf l).toNat)
    case atStart =>
      refine ⟨0, Nat.zero_le _, rfl, ?_, by go_grown⟩
      unfold Row
      rw [avgTo_len]
      refine (World.rowIs_made w (.int .i64 0) ws.length _).congr (fun i hi => ?_)
      show Value.int .i64 0 = .int .i64 ((List.replicate ws.length (0 : Int)).getD i 0)
      rw [List.getD_eq_getElem?_getD, List.getElem?_replicate]; split <;> rfl
    case round =>
      obtain ⟨j, hj, rfl, RG, hB⟩ := hrel
      by_cases hjn : (j : Int) < n
      · have A := avg_is HV.out hs j (by omega)
        obtain ⟨hb, hwb⟩ := avg_pos HV.out hs (by omega) A
        have hl := avgTo_len step ws j
        have e1 := avgTo_succ step ws j
        have hbd : ∀ i, i < ws.length → 0 ≤ (avgTo step ws j).getD i 0 ∧ (avgTo step ws j).getD i 0 ≤ 1000 := fun i hi => by have := A.bd i hi; omega
        obtain ⟨G', hG'⟩ : ∃ G', avgTo step ws (j + 1) = G' := ⟨_, rfl⟩
        rw [hG'] at e1
        have HG := Lib.hid hG'
        clear hG' A
        generalize avgTo step ws j = G at *
        have HP := Lib.hid (pickW_is step ws G ws.length (fun i hi => (all_get HV.out hi).1) (fun i hi => (fac_bd hs (hbd i hi) (by omega)).1))
        have hpk : pickS (okWa ws) (avgB step ws G) ws.length = (pickB (avgB step ws G) ws.length : Nat) := by
          rcases HP.out ws.length (Nat.le_refl _) with ⟨_, b0, hno⟩ | ⟨h, _⟩
          · have := hno _ hb
            unfold okWa at this
            simp only [decide_eq_false_iff_not] at this
            omega
          · exact h
        have HPK := Lib.hid hpk
        have HBD := Lib.hid hbd
        have HRG := Lib.hid RG
        have HB := Lib.hid hB
        have HE := Lib.hid e1
        clear hbd RG hB e1 hpk hwb
        go_wp2_with fail
        go_loopw [11, 12] (fun b i wi => ∃ k : Nat, k ≤ ws.length ∧ i = .int .i64 k ∧ b = .int .i64 (pickS (okWa ws) (avgB step ws G) k) ∧ Below wr.heap.size wr wi) (fun _ i _ => ws.length - (intOf i).toNat)
        case atStart => exact ⟨0, Nat.zero_le _, rfl, rfl, Below.refl _ _⟩
        case round =>
          obtain ⟨k, hk, rfl, hbest, hBi⟩ := hrel
          by_cases hlt : k < ws.length
          · have hB2 := bel_tr HB.out hBi
            have c1 := (hB2.cell (p := ⟨g, o + k, none⟩) (World.block_lt_of_cell? w _ (HC.out k hlt))).trans (HC.out k hlt)
            have i0 : (0 : Int) ≤ (k : Int) := by omega
            have i1 : (k : Int) < (ws.length : Int) := by omega
            by_cases hd : 0 < ws.getD k 0
            · rcases HP.out k hk with ⟨p1, _, _⟩ | ⟨p1, p2, p3⟩
              · have HS := Lib.hid (pickW_first step ws G k hd p1)
                rw [p1] at hbest
                subst hbest
                clear p1 hB2
                generalize ws.getD k 0 = x at *
                go_wp2_with fail
                go_quiet (fail)
                go_wp2
                go_roundw
                case rel => exact ⟨k + 1, by omega, by go_num, by rw [HS.out], below_drewN hBi _⟩
                case measure => simp [intOf]; omega
              · have HS := Lib.hid (pickW_next step ws G k _ hd p1)
                rw [p1] at hbest
                subst hbest
                have hbk : pickB (avgB step ws G) k < ws.length := by omega
                have c2 := (hB2.cell (p := ⟨g, o + pickB (avgB step ws G) k, none⟩) (World.block_lt_of_cell? w _ (HC.out _ hbk))).trans (HC.out _ hbk)
                have c3 := World.rowIs.cell (row_keep HRG.out hBi) (i := k) (by omega)
                have c4 := World.rowIs.cell (row_keep HRG.out hBi) (i := pickB (avgB step ws G) k) (by omega)
                obtain ⟨p1, p2, p3, p4⟩ := fac_all (x := ws.getD k 0) hs (all_get HV.out hlt) (HBD.out _ hbk)
                obtain ⟨q1, q2, q3, q4⟩ := fac_all (x := ws.getD (pickB (avgB step ws G) k) 0) hs (all_get HV.out hbk) (HBD.out k hlt)
                have i2 : (0 : Int) ≤ (pickB (avgB step ws G) k : Int) := by omega
                have i3 : (pickB (avgB step ws G) k : Int) < (ws.length : Int) := by omega
                have i4 : decide ((pickB (avgB step ws G) k : Int) < 0) = false := decide_eq_false (by omega)
                clear hB2
                generalize pickB (avgB step ws G) k = b at *
                generalize ws.getD k 0 = x at *
                generalize ws.getD b 0 = y at *
                generalize G.getD k 0 = u at *
                generalize G.getD b 0 = v at *
                have t1 : IntKind.i64.wrap (step * v) = step * v := wrap_of (by omega)
                have t2 : IntKind.i64.wrap (step * u) = step * u := wrap_of (by omega)
                have t3 : IntKind.i64.wrap (step * v + 1) = step * v + 1 := wrap_of (by omega)
                have t4 : IntKind.i64.wrap (step * u + 1) = step * u + 1 := wrap_of (by omega)
                have t5 : IntKind.i64.wrap (x * (step * v + 1)) = x * (step * v + 1) := wrap_of (by omega)
                have t6 : IntKind.i64.wrap (y * (step * u + 1)) = y * (step * u + 1) := wrap_of (by omega)
                clear hs hl
                by_cases hxy : y * (step * u + 1) < x * (step * v + 1)
                · rw [if_pos hxy] at HS
                  go_wp2_with fail
                  go_quiet (fail)
                  go_wp2
                  go_roundw
                  case rel => exact ⟨k + 1, by omega, by go_num, by rw [HS.out], below_drewN hBi _⟩
                  case measure => simp [intOf]; omega
                · rw [if_neg hxy] at HS
                  go_wp2_with fail
                  go_quiet (fail)
                  go_wp2
                  go_roundw
                  case rel => exact ⟨k + 1, by omega, by go_num, by rw [HS.out], below_drewN hBi _⟩
                  case measure => simp [intOf]; omega
            · have hd2 : decide (0 < ws.getD k 0) = false := decide_eq_false hd
              have HS := Lib.hid (pickW_skip step ws G k hd)
              subst hbest
              clear hB2
              generalize ws.getD k 0 = x at *
              go_wp2_with fail
              go_quiet (fail)
              go_wp2
              go_roundw
              case rel => exact ⟨k + 1, by omega, by go_num, by rw [HS.out], below_drewN hBi _⟩
              case measure => simp [intOf]; omega
          · have ek : k = ws.length := by omega
            subst ek
            rw [HPK.out] at hbest
            subst hbest
            have hy := HBD.out _ hb
            clear HPK HP HBD
            have RG := row_keep HRG.out hBi
            have B4 := bel_tr HB.out hBi
            have E1 := HE.out
            generalize pickB (avgB step ws G) ws.length = b at *
            have hx := World.rowIs.cell RG (i := b) (by omega)
            have hf := World.rowIs.frozen RG b
            have i0 : (0 : Int) ≤ (b : Int) := by omega
            have i1 : (b : Int) < (ws.length : Int) := by omega
            have sG := row_set RG b (G.getD b 0 + 1) (by omega)
            rw [← E1] at sG
            have sB : Below w.heap.size w (wr.setCell ⟨w.heap.size, b, none⟩ (.int .i64 (G.getD b 0 + 1))) := B4.setCell (Nat.le_refl _) _
            have HS := Lib.hid (And.intro sG sB)
            clear sG sB RG B4 E1 HE HRG HB
            generalize G.getD b 0 = y at *
            go_wp2
            go_roundw
            case rel => exact ⟨j + 1, by omega, by go_num, by rw [HG.out]; exact HS.out.1, HS.out.2⟩
            case measure => simp [intOf]; omega
      · have e : j = n.toNat := by omega
        have HR := Lib.hid RG
        clear RG
        go_wp2
        go_ret
        exact ⟨w.heap.size, rfl, Nat.le_refl _, by unfold sa; rw [← e]; exact HR.out, hB⟩
/-- spec.passing -/
theorem spassing (x0 x1 x2 x3 x4 c : Int) (w : World) (hc : 0 ≤ c ∧ c ≤ 500) (h2 : 0 ≤ x2 ∧ x2 ≤ 500) (h3 : 0 ≤ x3 ∧ x3 ≤ 500) :
    Calls Try.prog 197 #[.agg #[.int .i64 x0, .int .i64 x1, .int .i64 x2, .int .i64 x3, .int .i64 x4], .int .i64 c] w fun e w' => e = .returned (.int .i64 (passV (x0, x1, x2, x3, x4) c)) ∧ Below w.heap.size w w' := by
  have HV : Hid (passV (x0, x1, x2, x3, x4) c = min x3 (c - min x2 c)) := pass_min (x := (x0, x1, x2, x3, x4)) h3.1 hc.1 h2.1
  have wz : IntKind.i64.wrap (c - min x2 c) = c - min x2 c := by rw [IntKind.wrap_i64]; omega
  go_enter Try.func197, Try.ntmps197
  go_wp2_with fail
  all_goals (go_ret; exact ⟨ret_int (by rw [HV.out]; omega), by go_grown⟩)
/-- what the kids of a node get, 0 where it is nothing -/
def giveS (ns : List Nd) (k : Int) (p : Int) : List Int := if vwB (wts ns k) = true then sa 2 p (wts ns k) else List.replicate (kidsF ns k).length 0
theorem giveS_len (ns : List Nd) (k : Int) (p : Int) : (giveS ns k p).length = (kidsF ns k).length := by
  unfold giveS; split
  · rw [sa_len]; unfold wts; rw [wk_len]
  · rw [List.length_replicate]
theorem giveS_put {ns : List Nd} (hv : vnB ns = true) {fl : Int} {k : Nat} (hk : k < ns.length) : putTo (comeTo ns fl k) (kidsF ns (k : Int)) (giveS ns (k : Int) (passV (ns.getD k nd0) ((comeTo ns fl k).getD k 0))) (kidsF ns (k : Int)).length = comeTo ns fl (k + 1) := by
  unfold giveS
  by_cases hw : vwB (wts ns (k : Int)) = true
  · rw [if_pos hw]; exact step_give hw
  · rw [if_neg hw]; exact step_zero hv hk hw
theorem wk_take (ns : List Nd) (ks : List Int) (k : Nat) (h : k < ks.length) : (wk ns ks).take (k + 1) = (wk ns ks).take k ++ [(ns.getD (ks.getD k 0).toNat nd0).2.1] := by
  rw [take_snocD (wk ns ks) (by rw [wk_len]; exact h) 0, wk_get ns ks h]
/-- spec.shareKids -/
theorem sshareF (a : Option Addr) (cap : Nat) (ns : List Nd) (k : Nat) (p : Int) (w : World) (h : IsNd w a ns) (hv : vnB ns = true) (hp : 0 ≤ p ∧ p ≤ 500) :
    Calls Try.prog 199 #[.slice a ns.length cap, .int .i64 (k : Int), .int .i64 p] w (OutI w (giveS ns (k : Int) p)) := by
  obtain ⟨l1, l12, _⟩ := vn_is hv
  obtain ⟨i0, hi0, hz0, hz1, hz2⟩ := info_parts infoInt
  have CK := skids a cap ns (k : Int) w h hv
  have hkl := kids_len ns (k : Int)
  have hkm : ∀ z ∈ kidsF ns (k : Int), ∃ j : Nat, z = (j : Int) ∧ j < ns.length := fun z hz => by obtain ⟨j, a, b, _⟩ := kids_bd hz; exact ⟨j, a, b⟩
  have HW1 : Hid (∀ z ∈ wts ns (k : Int), 0 ≤ z ∧ z ≤ 1000) := wts_bd hv (k : Int)
  have HWZ := Lib.hid (wts_zero hv (k : Int))
  have HWE : Hid (wts ns (k : Int) = wk ns (kidsF ns (k : Int))) := rfl
  have HGS : Hid (giveS ns (k : Int) p = if vwB (wts ns (k : Int)) = true then sa 2 p (wts ns (k : Int)) else List.replicate (kidsF ns (k : Int)).length 0) := rfl
  have HMK := Lib.hid (run_make_row' (P := Try.prog) 59 3 (.int .i64 0) 8 Try.underlying59 infoInt rfl .i64 .i64 (kidsF ns (k : Int)).length (by omega) (by omega))
  rcases h with rfl | ⟨g, o, rfl, hc⟩
  · simp at l1
  have HC := Lib.hid hc
  have HKM := Lib.hid hkm
  clear hc hv hkm
  generalize kidsF ns (k : Int) = ks at CK hkl HKM HWE HGS HMK
  generalize wts ns (k : Int) = ws at HW1 HWZ HWE HGS
  go_enter Try.func199, Try.ntmps199
  go_wp2_with fail
  refine CK.mono ?_
  rintro e w1 ⟨v7, rfl, hK, hB⟩
  obtain ⟨kb, kc, rfl, _⟩ := hK.ints
  have HC1 : Hid (∀ i, i < ns.length → w1.cell? ⟨g, o + i * 5 + 1, none⟩ = some (.int .i64 (ns.getD i nd0).2.1)) := fun i hi => (nd_at HC.out hB hi).2.1
  have HK1 := Lib.hid hK
  have HB1 := Lib.hid hB
  have hs1 := hB.size
  clear CK hK hB HC
  go_wp2_with fail
  obtain ⟨V, hV⟩ : ∃ V, V = w1 := ⟨_, rfl⟩
  subst hV
  go_loopw [8, 9] (fun v i wr => ∃ q : Nat, q ≤ ks.length ∧ i = .int .i64 q ∧ OwnI wr V.heap.size v ((wk ns ks).take q) ∧ Below V.heap.size V wr) (fun _ i _ => ks.length - (intOf i).toNat)
  case atStart => exact ⟨0, Nat.zero_le _, rfl, OwnI.new (Below.refl _ V), by go_grown⟩
  case round =>
    obtain ⟨q, hq, rfl, hO, hB⟩ := hrel
    have hsz := hB.size
    by_cases hlt : q < ks.length
    · rcases (HK1.out.of_block hB).at_ with rfl | ⟨gk, ok, rfl, hkc⟩
      · simp at hlt
      have c1 := hkc q hlt
      obtain ⟨j, hj, hjl⟩ := HKM.out _ (getD_mem hlt)
      have c2' := HC1.out j hjl
      have c2 := (hB.cell (World.block_lt_of_cell? V _ c2')).trans c2'
      have hwt := wk_take ns ks q hlt
      rw [hj, show ((j : Int)).toNat = j from by omega] at hwt
      rw [hj] at c1
      have hll : ((wk ns ks).take q).length ≤ 1048576 := by rw [List.length_take]; omega
      generalize (ns.getD j nd0).2.1 = z at c2 hwt
      generalize (wk ns ks).take q = tk at hO hwt hll
      have b0 : (0 : Int) ≤ (j : Int) := by omega
      have b1 : (j : Int) < (ns.length : Int) := by omega
      have HWT := Lib.hid hwt
      clear hkc c2' hwt hj
      go_wp2_with (first | (at_builtin; refine wpList_append_own _ rfl (.tmp 20) (.tmp 29) _ rfl V.heap.size 3 i0 (.int .i64 0) 1 8 Try.underlying59 hi0 hz0 hz1 hz2 rfl (by decide) _ _ _ rfl (hO.alloc _) ⟨wr.heap.size, 0, none⟩ 1 1 [.int .i64 z] rfl rfl (cell_one_new _ _ _) (fun x hx => by simp at hx; subst hx; rfl) (by unfold maxLen; omega) (by omega) (by simp; omega) ?_; intro v3 w3 hown3 hgrow3 hnil3))
      have HR : Hid (OwnI w3 V.heap.size v3 ((wk ns ks).take (q + 1)) ∧ Below V.heap.size V w3) := ⟨by rw [HWT.out]; exact OwnI.snoc hown3, (hB.alloc hsz _).grown hgrow3 (by simp; omega) hO.grow⟩
      clear hO hown3 hgrow3 hnil3 hB c1 c2
      go_roundw
      case rel => exact ⟨q + 1, by omega, by go_num, HR.out.1, HR.out.2⟩
      case measure => simp [intOf]; omega
    · rw [List.take_of_length_le (by rw [wk_len]; omega), ← HWE.out] at hO
      obtain ⟨wb, wc, rfl, hWI⟩ := hO.ints
      have HWL : Hid (ws.length = ks.length) := by show ws.length = ks.length; rw [HWE.out, wk_len]
      have CT := stotal wb wc ws wr hWI (by rw [HWL.out]; omega) (fun z hz => by have := HW1.out z hz; omega)
      have HB2 := Lib.hid (bel_tr HB1.out hB)
      have HWI := Lib.hid hWI
      have hsz2 := HB2.out.size
      have HWZ2 := HWZ.out
      obtain ⟨sm, hsm⟩ : ∃ s, ws.sum = s := ⟨_, rfl⟩
      rw [hsm] at CT HWZ2
      have hkq : (q : Int) = (ks.length : Int) := by omega
      clear hB hO hWI hsm
      go_wp2_with fail
      refine CT.mono ?_
      rintro e w' ⟨rfl, rfl⟩
      clear CT
      by_cases hw : vwB ws = true
      · have HGV : Hid (giveS ns (k : Int) p = sa 2 p ws) := by show _ = _; rw [HGS.out, if_pos hw]
        have e1 : (sm == 0) = false := by rw [HWZ2, hw]; rfl
        have CB := sbyAvg 2 p wb wc ws wr HWI.out (by rw [HWL.out]; omega) (by omega) (by rw [cs_is (by omega)]; exact hw)
        clear hw HWZ2
        go_wp2_with fail
        refine CB.mono ?_
        rintro e w5 ⟨gq, rfl, hg, hr, hb5⟩
        have HE : Hid (OwnI w5 w.heap.size (.slice (some ⟨gq, 0, none⟩) ws.length ws.length) (giveS ns (k : Int) p) ∧ Below w.heap.size w w5) := by
          have := row_own hr (base := w.heap.size) (by omega) (by rw [sa_len, HWL.out]; omega)
          rw [sa_len] at this
          exact ⟨by rw [HGV.out]; exact this, bel_tr HB2.out hb5⟩
        clear hg hr hb5 CB
        go_wp2_with fail
        go_ret
        exact ⟨_, rfl, HE.out⟩
      · have HGV : Hid (giveS ns (k : Int) p = List.replicate ks.length 0) := by show _ = _; rw [HGS.out, if_neg hw]
        have hw2 : vwB ws = false := by simpa using hw
        have e1 : (sm == 0) = true := by rw [HWZ2, hw2]; rfl
        obtain rfl : sm = 0 := by simpa using e1
        have hmk := HMK.out
        have HE : Hid (OwnI (wr.alloc (.cells (madeCells #[.int .i64 0] ks.length) 3)) w.heap.size (.slice (some ⟨wr.heap.size, 0, none⟩) ks.length ks.length) (giveS ns (k : Int) p) ∧ Below w.heap.size w (wr.alloc (.cells (madeCells #[.int .i64 0] ks.length) 3))) := ⟨by rw [HGV.out]; exact OwnI.made HB2.out ks.length (by omega), HB2.out.alloc HB2.out.size _⟩
        clear hw hw2 HWZ2
        go_wp2_with fail
        go_ret
        exact ⟨_, rfl, HE.out⟩
/-- spec.flows -/
theorem sflows (a : Option Addr) (cap : Nat) (ns : List Nd) (fl : Int) (w : World) (h : IsNd w a ns) (hv : vnB ns = true) (hf : 0 ≤ fl ∧ fl ≤ 500) :
    Calls Try.prog 195 #[.slice a ns.length cap, .int .i64 fl] w (OutI w (comeF ns fl)) := by
  obtain ⟨l1, l12, _⟩ := vn_is hv
  have hmk := run_make_row' (P := Try.prog) 59 3 (.int .i64 0) 8 Try.underlying59 infoInt rfl .i64 .i64 ns.length (by omega) (by omega)
  have HKID := Lib.hid (fun (W : World) (hW : Below w.heap.size w W) (k : Nat) => skids a cap ns (k : Int) W (nd_below h hW) hv)
  have HSHR := Lib.hid (fun (W : World) (hW : Below w.heap.size w W) (k : Nat) (p : Int) (hp : 0 ≤ p ∧ p ≤ 500) => sshareF a cap ns k p W (nd_below h hW) hv hp)
  have HV := Lib.hid hv
  rcases h with rfl | ⟨g0, o, rfl, hc⟩
  · simp at l1
  have HC := Lib.hid hc
  have i0 : (0 : Int) < (ns.length : Int) := by omega
  have hM := OwnI.made (Below.refl _ w) ns.length (by omega)
  have hz := hM.cell (j := 0) (by rw [List.length_replicate]; omega)
  have hzf := hM.frozen 0
  have hO0 := hM.set_ 0 fl
  obtain ⟨g, hg⟩ : ∃ g, w.heap.size = g := ⟨_, rfl⟩
  have hgw : w.heap.size ≤ g := by omega
  rw [hg] at hz hzf
  rw [List.getD_eq_getElem?_getD, List.getElem?_replicate, if_pos (by omega)] at hz
  dsimp only [Option.getD_some] at hz
  have hB0 : Below w.heap.size w ((w.alloc (.cells (madeCells #[.int .i64 0] ns.length) 3)).setCell ⟨w.heap.size, 0, none⟩ (.int .i64 fl)) := ((Below.refl _ w).alloc (Nat.le_refl _) _).setCell (p := ⟨w.heap.size, 0, none⟩) (Nat.le_refl _) _
  rw [World.setCell_alloc_at _ _ _ _ _ rfl] at hO0 hB0
  have HO0 := Lib.hid hO0
  have HB0 := Lib.hid hB0
  clear hM hO0 hB0 hc hv
  go_enter Try.func195, Try.ntmps195
  go_wp2_with fail
  clear hmk hz hzf
  go_loopw [6] (fun i wr => ∃ k : Nat, k ≤ ns.length ∧ i = .int .i64 k ∧ OwnI wr w.heap.size (.slice (some ⟨g, 0, none⟩) ns.length ns.length) (comeTo ns fl k) ∧ Below w.heap.size w wr) (fun i _ => ns.length - (intOf i).toNat)
  case atStart => exact ⟨0, Nat.zero_le _, rfl, by subst hg; exact HO0.out, HB0.out⟩
  case round =>
    clear HO0 HB0 hg
    obtain ⟨k, hk, rfl, hO, hB⟩ := hrel
    by_cases hlt : k < ns.length
    · have CK := HKID.out wr hB k
      obtain ⟨q1, q2, q3, q4⟩ := vn_at HV.out hlt
      have hcb := comeTo_bd HV.out hf k hk k
      have hkl := kids_len ns (k : Int)
      have HKM : Hid (∀ z ∈ kidsF ns (k : Int), ∃ j : Nat, z = (j : Int) ∧ j < ns.length) := fun z hz => by obtain ⟨j, a, b, _⟩ := kids_bd hz; exact ⟨j, a, b⟩
      have HO := Lib.hid hO
      have HB := Lib.hid hB
      have hgb := hO.blk
      have k0 : (0 : Int) ≤ (k : Int) := by omega
      have k1 : (k : Int) < (ns.length : Int) := by omega
      clear hO hB
      go_wp2_with fail
      refine CK.mono ?_
      rintro e w3 ⟨v7, rfl, hK, hB3⟩
      obtain ⟨kb, kcp, rfl, _⟩ := hK.ints
      have B3 := Lib.hid (bel_tr HB.out hB3)
      have O3 := Lib.hid (HO.out.of_block hB3)
      have s3 := hB3.size
      have kc := O3.out.cell (j := k) (by rw [comeTo_len]; exact hlt)
      obtain ⟨c0, c1, c2, c3, c4⟩ := nd_at HC.out B3.out hlt
      have HK := Lib.hid hK
      have HST := Lib.hid (giveS_put HV.out (fl := fl) hlt)
      have hgl := giveS_len ns (k : Int) (passV (ns.getD k nd0) ((comeTo ns fl k).getD k 0))
      have hpb := pass_bd (x := ns.getD k nd0) q3.1 hcb.1 q2.1
      have HSH := Lib.hid (fun (W : World) (hW : Below w.heap.size w W) => HSHR.out W hW k (passV (ns.getD k nd0) ((comeTo ns fl k).getD k 0)) (by omega))
      generalize (comeTo ns fl k).getD k 0 = c at hcb kc HST hgl HSH hpb
      have CP := fun W => spassing (ns.getD k nd0).1 (ns.getD k nd0).2.1 (ns.getD k nd0).2.2.1 (ns.getD k nd0).2.2.2.1 (ns.getD k nd0).2.2.2.2 c W hcb q2 q3
      change ∀ W, Calls _ _ _ W (fun e w' => e = .returned (.int .i64 (passV (ns.getD k nd0) c)) ∧ Below W.heap.size W w') at CP
      generalize ns.getD k nd0 = nd at c0 c1 c2 c3 c4 CP HST hgl q2 q3 HSH hpb
      obtain ⟨x0, x1, x2, x3, x4⟩ := nd
      dsimp only at c0 c1 c2 c3 c4 CP
      generalize passV (x0, x1, x2, x3, x4) c = p at CP HST hgl HSH hpb
      clear CK hK hB3 HO HB q1 q2 q3 q4 hcb hpb
      go_wp2_with fail
      refine wp_region_held_drew (S := (fun W' => (W'.cell? ⟨g0, o + k * 5, none⟩ = some (.int .i64 x0) ∧ W'.cell? ⟨g0, o + k * 5 + 1, none⟩ = some (.int .i64 x1) ∧ W'.cell? ⟨g0, o + k * 5 + 2, none⟩ = some (.int .i64 x2) ∧ W'.cell? ⟨g0, o + k * 5 + 3, none⟩ = some (.int .i64 x3) ∧ W'.cell? ⟨g0, o + k * 5 + 4, none⟩ = some (.int .i64 x4) ∧ W'.cell? ⟨g, k, none⟩ = some (.int .i64 c)) ∧ Below w3.heap.size w3 W')) (by kernel_rfl) ?_ (fun hHeld => ?_)
      · exact ⟨⟨c0, c1, c2, c3, c4, kc⟩, (Below.refl _ _).drew⟩
      refine wpAnyH_take (i := 0) (oi := ?ooa0) (v := ?vva0) ?hia0 (by kernel_rfl) ?h3a0 ?h4a0 ?h5a0 ?h6a0 (by assumption) ?h8a0
      case hia0 => (simp only [List.getElem?_toArray, List.getElem?_cons_succ, List.getElem?_cons_zero]; rfl)
      case h3a0 => kernel_rfl
      case h4a0 => kernel_rfl
      case h6a0 => (refine Or.inl ⟨by rfl, ?_⟩; intro w hSw; (try dsimp only at hSw); (go_simp <;> with_reducible rfl))
      case h5a0 => exact fun _ _ _ h => h
      try simp only [Act.put, List.setIfInBounds_toArray, List.set_cons_zero, List.set_cons_succ]
      refine wpAnyH_take (i := 1) (oi := ?ooa1) (v := ?vva1) ?hia1 (by kernel_rfl) ?h3a1 ?h4a1 ?h5a1 ?h6a1 (by assumption) ?h8a1
      case hia1 => (simp only [List.getElem?_toArray, List.getElem?_cons_succ, List.getElem?_cons_zero]; rfl)
      case h3a1 => kernel_rfl
      case h4a1 => kernel_rfl
      case h6a1 => (refine Or.inl ⟨by rfl, ?_⟩; intro w hSw; (try dsimp only at hSw); (go_simp <;> with_reducible rfl))
      case h5a1 => exact fun _ _ _ h => h
      try simp only [Act.put, List.setIfInBounds_toArray, List.set_cons_zero, List.set_cons_succ]
      refine wpAnyH_take (i := 2) (oi := ?ooa2) (v := ?vva2) ?hia2 (by kernel_rfl) ?h3a2 ?h4a2 ?h5a2 ?h6a2 (by assumption) ?h8a2
      case hia2 => (simp only [List.getElem?_toArray, List.getElem?_cons_succ, List.getElem?_cons_zero]; rfl)
      case h3a2 => kernel_rfl
      case h4a2 => kernel_rfl
      case h6a2 => (refine Or.inl ⟨by rfl, ?_⟩; intro w hSw; (try dsimp only at hSw); (go_simp <;> with_reducible rfl))
      case h5a2 => exact fun _ _ _ h => h
      try simp only [Act.put, List.setIfInBounds_toArray, List.set_cons_zero, List.set_cons_succ]
      refine wpAnyH_take (i := 3) (oi := ?ooa3) (v := ?vva3) ?hia3 (by kernel_rfl) ?h3a3 ?h4a3 ?h5a3 ?h6a3 (by assumption) ?h8a3
      case hia3 => (simp only [List.getElem?_toArray, List.getElem?_cons_succ, List.getElem?_cons_zero]; rfl)
      case h3a3 => kernel_rfl
      case h4a3 => kernel_rfl
      case h6a3 => (refine Or.inl ⟨by rfl, ?_⟩; intro w hSw; (try dsimp only at hSw); (go_simp <;> with_reducible rfl))
      case h5a3 => exact fun _ _ _ h => h
      try simp only [Act.put, List.setIfInBounds_toArray, List.set_cons_zero, List.set_cons_succ]
      refine wpAnyH_take (i := 4) (oi := ?ooa4) (v := ?vva4) ?hia4 (by kernel_rfl) ?h3a4 ?h4a4 ?h5a4 ?h6a4 (by assumption) ?h8a4
      case hia4 => (simp only [List.getElem?_toArray, List.getElem?_cons_succ, List.getElem?_cons_zero]; rfl)
      case h3a4 => kernel_rfl
      case h4a4 => kernel_rfl
      case h6a4 => (refine Or.inl ⟨by rfl, ?_⟩; intro w hSw; (try dsimp only at hSw); (go_simp <;> with_reducible rfl))
      case h5a4 => exact fun _ _ _ h => h
      try simp only [Act.put, List.setIfInBounds_toArray, List.set_cons_zero, List.set_cons_succ]
      refine wpAnyH_take (i := 5) (oi := ?ooa5) (v := ?vva5) ?hia5 (by kernel_rfl) ?h3a5 ?h4a5 ?h5a5 ?h6a5 (by assumption) ?h8a5
      case hia5 => (simp only [List.getElem?_toArray, List.getElem?_cons_succ, List.getElem?_cons_zero]; rfl)
      case h3a5 => kernel_rfl
      case h4a5 => kernel_rfl
      case h6a5 => (refine Or.inl ⟨by rfl, ?_⟩; intro w hSw; (try dsimp only at hSw); (go_simp <;> with_reducible rfl))
      case h5a5 => exact fun _ _ _ h => h
      try simp only [Act.put, List.setIfInBounds_toArray, List.set_cons_zero, List.set_cons_succ]
      refine wpAnyH_take (i := 6) (oi := ?ooa6) (v := ?vva6) ?hia6 (by kernel_rfl) ?h3a6 ?h4a6 ?h5a6 ?h6a6 (by assumption) ?h8a6
      case hia6 => (simp only [List.getElem?_toArray, List.getElem?_cons_succ, List.getElem?_cons_zero]; rfl)
      case h3a6 => kernel_rfl
      case h4a6 => kernel_rfl
      case h6a6 => (refine Or.inl ⟨by rfl, ?_⟩; intro w hSw; (try dsimp only at hSw); (go_simp <;> with_reducible rfl))
      case h5a6 => exact fun _ _ _ h => h
      try simp only [Act.put, List.setIfInBounds_toArray, List.set_cons_zero, List.set_cons_succ]
      refine wpAnyH_take (i := 7) (oi := ?ooa7) (v := ?vva7) ?hia7 (by kernel_rfl) ?h3a7 ?h4a7 ?h5a7 ?h6a7 (by assumption) ?h8a7
      case hia7 => (simp only [List.getElem?_toArray, List.getElem?_cons_succ, List.getElem?_cons_zero]; rfl)
      case h3a7 => kernel_rfl
      case h4a7 => kernel_rfl
      case h6a7 => (refine Or.inl ⟨by rfl, ?_⟩; intro w hSw; (try dsimp only at hSw); (go_simp <;> with_reducible rfl))
      case h5a7 => exact fun _ _ _ h => h
      try simp only [Act.put, List.setIfInBounds_toArray, List.set_cons_zero, List.set_cons_succ]
      refine wpAnyH_take (i := 8) (oi := ?ooa8) (v := ?vva8) ?hia8 (by kernel_rfl) ?h3a8 ?h4a8 ?h5a8 ?h6a8 (by assumption) ?h8a8
      case hia8 => (simp only [List.getElem?_toArray, List.getElem?_cons_succ, List.getElem?_cons_zero]; rfl)
      case h3a8 => kernel_rfl
      case h4a8 => kernel_rfl
      case h6a8 => (refine Or.inl ⟨by rfl, ?_⟩; intro w hSw; (try dsimp only at hSw); (go_simp <;> with_reducible rfl))
      case h5a8 => exact fun _ _ _ h => h
      try simp only [Act.put, List.setIfInBounds_toArray, List.set_cons_zero, List.set_cons_succ]
      refine wpAnyH_take (i := 9) (oi := ?ooa9) (v := ?vva9) ?hia9 (by kernel_rfl) ?h3a9 ?h4a9 ?h5a9 ?h6a9 (by assumption) ?h8a9
      case hia9 => (simp only [List.getElem?_toArray, List.getElem?_cons_succ, List.getElem?_cons_zero]; rfl)
      case h3a9 => kernel_rfl
      case h4a9 => kernel_rfl
      case h6a9 => (refine Or.inl ⟨by rfl, ?_⟩; intro w hSw; (try dsimp only at hSw); (go_simp <;> with_reducible rfl))
      case h5a9 => exact fun _ _ _ h => h
      try simp only [Act.put, List.setIfInBounds_toArray, List.set_cons_zero, List.set_cons_succ]
      refine wpAnyH_ready (rs := [10]) (by kernel_rfl) (by simp) (AllReadyH.cons (o := ?ooa10) ?hia10 (fun K hK => ?hka10) AllReadyH.nil)
      rotate_left
      case hia10 => (simp only [List.getElem?_toArray, List.getElem?_cons_succ, List.getElem?_cons_zero]; rfl)
      (rw [if_pos (by rfl)]; go_simp; refine (CP _).mono ?_; rintro e wq ⟨rfl, hb⟩; go_wp2_with fail; refine hK.out _ _ (kp6 hb hHeld) (fun hHeld => ?_); clear hK K)
      try simp only [Act.put, List.setIfInBounds_toArray, List.set_cons_zero, List.set_cons_succ]
      refine wpAnyH_ready (rs := [11]) (by kernel_rfl) (by simp) (AllReadyH.cons (o := ?ooa11) ?hia11 (fun K hK => ?hka11) AllReadyH.nil)
      rotate_left
      case hia11 => (simp only [List.getElem?_toArray, List.getElem?_cons_succ, List.getElem?_cons_zero]; rfl)
      (rw [if_pos (by rfl)]; go_simp; refine (HSH.out _ (bel_tr B3.out hHeld.2)).mono ?_; rintro e wp ⟨v8, rfl, hG, hb2⟩; obtain ⟨gb, gcp, rfl, _⟩ := hG.ints; go_wp2_with fail; refine hK.out _ _ (kp6 hb2 hHeld) (fun hHeld => ?_); clear hK K)
      try simp only [Act.put, List.setIfInBounds_toArray, List.set_cons_zero, List.set_cons_succ]
      refine wpAnyH_take (i := 12) (oi := ?ooa12) (v := ?vva12) ?hia12 (by kernel_rfl) ?h3a12 ?h4a12 ?h5a12 ?h6a12 (by assumption) ?h8a12
      case hia12 => (simp only [List.getElem?_toArray, List.getElem?_cons_succ, List.getElem?_cons_zero]; rfl)
      case h3a12 => kernel_rfl
      case h4a12 => kernel_rfl
      case h6a12 => (refine Or.inl ⟨by rfl, ?_⟩; intro w hSw; (try dsimp only at hSw); (go_simp <;> with_reducible rfl))
      case h5a12 => exact fun _ _ _ h => h
      try simp only [Act.put, List.setIfInBounds_toArray, List.set_cons_zero, List.set_cons_succ]
      refine wpAnyH_done (by kernel_rfl) ?_ _
      have hW2 : Below w3.heap.size w3 wp := hHeld.2
      have B5 := bel_tr B3.out hW2
      have O5 := O3.out.of_block hW2
      have K5 := HK.out.of_block hW2
      have hcl := comeTo_len ns fl k
      have s5 : w3.heap.size ≤ wq.heap.size := hb.size
      have s6 := hb2.size
      have s7 := hHeld.2.size
      clear hHeld hb hb2 hW2 CP HSH c0 c1 c2 c3 c4 kc B3 O3 HK
      generalize kidsF ns (k : Int) = ks at K5 HKM hkl hgl HST
      generalize giveS ns (k : Int) p = gv at hG hgl HST
      generalize comeTo ns fl k = cs at O5 hcl HST
      have HO5 := Lib.hid O5
      have HK5 := Lib.hid K5
      have HG5 := Lib.hid hG
      have HB5 := Lib.hid B5
      clear O5 K5 hG B5
      go_wp2_with fail
      go_loopw [9] (fun i wr => ∃ m : Nat, m ≤ gv.length ∧ i = .int .i64 m ∧ Hid (OwnI wr w.heap.size (.slice (some ⟨g, 0, none⟩) ns.length ns.length) (putTo cs ks gv m) ∧ wp.grownBy wr (some g))) (fun i _ => gv.length - (intOf i).toNat)
      case atStart => exact ⟨0, Nat.zero_le _, rfl, HO5.out, g_of (Below.refl _ _) _⟩
      case round =>
        obtain ⟨m, hm, rfl, HM⟩ := hrel
        by_cases hlm : m < gv.length
        · have hka := HK5.out.apart HM.out.2 (fun q hq => by have e := Option.some.inj hq; omega)
          have hga2 := HG5.out.apart HM.out.2 (fun q hq => by have e := Option.some.inj hq; omega)
          obtain ⟨gk, rfl, nk'⟩ := hka.form_ (by omega)
          obtain ⟨gg, rfl, ng'⟩ := hga2.form_ (by omega)
          have nk : g ≠ gk := by omega
          have ng : g ≠ gg := by omega
          have c1 := hka.cell (j := m) (by omega)
          have c2 := hga2.cell hlm
          obtain ⟨j, hj, hjl⟩ := HKM.out _ (getD_mem (zs := ks) (k := m) (by omega))
          have hpl := putTo_len cs ks gv m
          have c3 := HM.out.1.cell (j := j) (by omega)
          have c4 := HM.out.1.frozen j
          have hst := HM.out.1.set_ j (gv.getD m 0)
          have hps := putTo_succ cs ks gv m
          rw [hj, show ((j : Int)).toNat = j from by omega] at hps
          rw [← hps] at hst
          rw [hj] at c1
          have HS : Hid (∀ n : Nat, OwnI ((wr.drewN n).setCell ⟨g, j, none⟩ (.int .i64 (gv.getD m 0))) w.heap.size (.slice (some ⟨g, 0, none⟩) ns.length ns.length) (putTo cs ks gv (m + 1)) ∧ wp.grownBy ((wr.drewN n).setCell ⟨g, j, none⟩ (.int .i64 (gv.getD m 0))) (some g)) := fun n => ⟨hst, g_set2 (g_drewN HM.out.2 n)⟩
          have b0 : (0 : Int) ≤ (j : Int) := by omega
          have b1 : (j : Int) < (ns.length : Int) := by omega
          have b2 : (m : Int) < (gv.length : Int) := by omega
          have b3 : (m : Int) < (ks.length : Int) := by omega
          have b4 : (0 : Int) ≤ (m : Int) := by omega
          generalize gv.getD m 0 = y at c2 HS
          generalize (putTo cs ks gv m).getD j 0 = y3 at c3
          clear hst hps hj hpl HM hka hga2
          go_wp2_with fail
          refine wp_region_held_drew (S := (fun W' => W'.cell? ⟨gk, m, none⟩ = some (.int .i64 (j : Int)) ∧ W'.cell? ⟨gg, m, none⟩ = some (.int .i64 y))) (by kernel_rfl) ?_ (fun hHeld => ?_)
          · exact ⟨c1, c2⟩
          refine wpAnyH_take (i := 0) (oi := ?oob0) (v := ?vvb0) ?hib0 (by kernel_rfl) ?h3b0 ?h4b0 ?h5b0 ?h6b0 (by assumption) ?h8b0
          case hib0 => (simp only [List.getElem?_toArray, List.getElem?_cons_succ, List.getElem?_cons_zero]; rfl)
          case h3b0 => kernel_rfl
          case h4b0 => kernel_rfl
          case h6b0 => (refine Or.inl ⟨by rfl, ?_⟩; intro w hSw; (try dsimp only at hSw); (go_simp <;> with_reducible rfl))
          case h5b0 => exact fun _ _ _ h => h
          try simp only [Act.put, List.setIfInBounds_toArray, List.set_cons_zero, List.set_cons_succ]
          refine wpAnyH_take (i := 1) (oi := ?oob1) (v := ?vvb1) ?hib1 (by kernel_rfl) ?h3b1 ?h4b1 ?h5b1 ?h6b1 (by assumption) ?h8b1
          case hib1 => (simp only [List.getElem?_toArray, List.getElem?_cons_succ, List.getElem?_cons_zero]; rfl)
          case h3b1 => kernel_rfl
          case h4b1 => kernel_rfl
          case h6b1 => (refine Or.inl ⟨by rfl, ?_⟩; intro w hSw; (try dsimp only at hSw); (go_simp <;> with_reducible rfl))
          case h5b1 => exact fun _ _ _ h => h
          try simp only [Act.put, List.setIfInBounds_toArray, List.set_cons_zero, List.set_cons_succ]
          refine wpAnyH_take (i := 2) (oi := ?oob2) (v := ?vvb2) ?hib2 (by kernel_rfl) ?h3b2 ?h4b2 ?h5b2 ?h6b2 (by assumption) ?h8b2
          case hib2 => (simp only [List.getElem?_toArray, List.getElem?_cons_succ, List.getElem?_cons_zero]; rfl)
          case h3b2 => kernel_rfl
          case h4b2 => kernel_rfl
          case h6b2 => (refine Or.inl ⟨by rfl, ?_⟩; intro w hSw; (try dsimp only at hSw); (go_simp <;> with_reducible rfl))
          case h5b2 => exact fun _ _ _ h => h
          try simp only [Act.put, List.setIfInBounds_toArray, List.set_cons_zero, List.set_cons_succ]
          refine wpAnyH_take (i := 3) (oi := ?oob3) (v := ?vvb3) ?hib3 (by kernel_rfl) ?h3b3 ?h4b3 ?h5b3 ?h6b3 (by assumption) ?h8b3
          case hib3 => (simp only [List.getElem?_toArray, List.getElem?_cons_succ, List.getElem?_cons_zero]; rfl)
          case h3b3 => kernel_rfl
          case h4b3 => kernel_rfl
          case h6b3 => (refine Or.inl ⟨by rfl, ?_⟩; intro w hSw; (try dsimp only at hSw); (go_simp <;> with_reducible rfl))
          case h5b3 => exact fun _ _ _ h => h
          try simp only [Act.put, List.setIfInBounds_toArray, List.set_cons_zero, List.set_cons_succ]
          refine wpAnyH_take (i := 4) (oi := ?oob4) (v := ?vvb4) ?hib4 (by kernel_rfl) ?h3b4 ?h4b4 ?h5b4 ?h6b4 (by assumption) ?h8b4
          case hib4 => (simp only [List.getElem?_toArray, List.getElem?_cons_succ, List.getElem?_cons_zero]; rfl)
          case h3b4 => kernel_rfl
          case h4b4 => kernel_rfl
          case h6b4 => (refine Or.inl ⟨by rfl, ?_⟩; intro w hSw; (try dsimp only at hSw); (go_simp <;> with_reducible rfl))
          case h5b4 => exact fun _ _ _ h => h
          try simp only [Act.put, List.setIfInBounds_toArray, List.set_cons_zero, List.set_cons_succ]
          refine wpAnyH_take (i := 5) (oi := ?oob5) (v := ?vvb5) ?hib5 (by kernel_rfl) ?h3b5 ?h4b5 ?h5b5 ?h6b5 (by assumption) ?h8b5
          case hib5 => (simp only [List.getElem?_toArray, List.getElem?_cons_succ, List.getElem?_cons_zero]; rfl)
          case h3b5 => kernel_rfl
          case h4b5 => kernel_rfl
          case h6b5 => (refine Or.inl ⟨by rfl, ?_⟩; intro w hSw; (try dsimp only at hSw); (go_simp <;> with_reducible rfl))
          case h5b5 => exact fun _ _ _ h => h
          try simp only [Act.put, List.setIfInBounds_toArray, List.set_cons_zero, List.set_cons_succ]
          refine wpAnyH_take (i := 6) (oi := ?oob6) (v := ?vvb6) ?hib6 (by kernel_rfl) ?h3b6 ?h4b6 ?h5b6 ?h6b6 (by assumption) ?h8b6
          case hib6 => (simp only [List.getElem?_toArray, List.getElem?_cons_succ, List.getElem?_cons_zero]; rfl)
          case h3b6 => kernel_rfl
          case h4b6 => kernel_rfl
          case h6b6 => (refine Or.inl ⟨by rfl, ?_⟩; intro w hSw; (try dsimp only at hSw); (go_simp <;> with_reducible rfl))
          case h5b6 => exact fun _ _ _ h => h
          try simp only [Act.put, List.setIfInBounds_toArray, List.set_cons_zero, List.set_cons_succ]
          refine wpAnyH_take (i := 7) (oi := ?oob7) (v := ?vvb7) ?hib7 (by kernel_rfl) ?h3b7 ?h4b7 ?h5b7 ?h6b7 (by assumption) ?h8b7
          case hib7 => (simp only [List.getElem?_toArray, List.getElem?_cons_succ, List.getElem?_cons_zero]; rfl)
          case h3b7 => kernel_rfl
          case h4b7 => kernel_rfl
          case h6b7 => (refine Or.inl ⟨by rfl, ?_⟩; intro w hSw; (try dsimp only at hSw); (go_simp <;> with_reducible rfl))
          case h5b7 => exact fun _ _ _ h => h
          try simp only [Act.put, List.setIfInBounds_toArray, List.set_cons_zero, List.set_cons_succ]
          refine wpAnyH_take (i := 8) (oi := ?oob8) (v := ?vvb8) ?hib8 (by kernel_rfl) ?h3b8 ?h4b8 ?h5b8 ?h6b8 (by assumption) ?h8b8
          case hib8 => (simp only [List.getElem?_toArray, List.getElem?_cons_succ, List.getElem?_cons_zero]; rfl)
          case h3b8 => kernel_rfl
          case h4b8 => kernel_rfl
          case h6b8 => (refine Or.inl ⟨by rfl, ?_⟩; intro w hSw; (try dsimp only at hSw); (go_simp <;> with_reducible rfl))
          case h5b8 => exact fun _ _ _ h => h
          try simp only [Act.put, List.setIfInBounds_toArray, List.set_cons_zero, List.set_cons_succ]
          refine wpAnyH_take (i := 9) (oi := ?oob9) (v := ?vvb9) ?hib9 (by kernel_rfl) ?h3b9 ?h4b9 ?h5b9 ?h6b9 (by assumption) ?h8b9
          case hib9 => (simp only [List.getElem?_toArray, List.getElem?_cons_succ, List.getElem?_cons_zero]; rfl)
          case h3b9 => kernel_rfl
          case h4b9 => kernel_rfl
          case h6b9 => (refine Or.inl ⟨by rfl, ?_⟩; intro w hSw; (try dsimp only at hSw); (go_simp <;> with_reducible rfl))
          case h5b9 => exact fun _ _ _ h => h
          try simp only [Act.put, List.setIfInBounds_toArray, List.set_cons_zero, List.set_cons_succ]
          refine wpAnyH_ready (rs := [10]) (by kernel_rfl) (by simp) (AllReadyH.cons (o := ?oob10) ?hib10 (fun K hK => ?hkb10) AllReadyH.nil)
          rotate_left
          case hib10 => (simp only [List.getElem?_toArray, List.getElem?_cons_succ, List.getElem?_cons_zero]; rfl)
          (rw [if_pos (by rfl)]; go_simp; refine hK.out _ _ (⟨(World.cell?_setCell_other _ _ _ _ (fun e => nk (congrArg Addr.block e))).trans hHeld.1, (World.cell?_setCell_other _ _ _ _ (fun e => ng (congrArg Addr.block e))).trans hHeld.2⟩) (fun hHeld => ?_); clear hK K)
          try simp only [Act.put, List.setIfInBounds_toArray, List.set_cons_zero, List.set_cons_succ]
          refine wpAnyH_done (by kernel_rfl) ?_ _
          go_wp2_with fail
          go_roundw
          case rel => exact ⟨m + 1, by omega, by go_num, HS.out 1⟩
          case measure => simp [intOf]; omega
        · have HE : Hid (OwnI wr w.heap.size (.slice (some ⟨g, 0, none⟩) ns.length ns.length) (comeTo ns fl (k + 1)) ∧ Below w.heap.size w wr) := by
            refine ⟨?_, below_gv HB5.out HM.out.2 (fun q hq => by have e := Option.some.inj hq; omega)⟩
            rw [← HST.out]
            have := HM.out.1
            rw [show m = ks.length from by omega] at this
            exact this
          have hmk2 : (m : Int) = (ks.length : Int) := by omega
          clear HM
          go_wp2_with fail
          go_roundw
          case rel => exact ⟨k + 1, by omega, by go_num, HE.out⟩
          case measure => simp [intOf]; omega
    · have HO := Lib.hid hO
      have HB := Lib.hid hB
      clear hO hB
      go_wp2_with fail
      go_ret
      exact ⟨_, rfl, by rw [show k = ns.length from by omega] at HO; exact HO.out, HB.out⟩
theorem got_bd {ns : List Nd} (hv : vnB ns = true) {fl : Int} (hf : 0 ≤ fl ∧ fl ≤ 500) (k : Int) : ∀ m, m ≤ (kidsF ns k).length → 0 ≤ ((gotL ns fl k).take m).sum ∧ ((gotL ns fl k).take m).sum ≤ 500 * (m : Int) := by
  intro m
  induction m with
  | zero => intro _; exact ⟨Int.le_refl _, by show (0 : Int) ≤ 500 * ((0 : Nat) : Int); omega⟩
  | succ m ih =>
    intro hm
    have a := ih (by omega)
    rw [take_sum _ m (by rw [gotL_len]; omega), gotL_get ns fl k (by omega)]
    have b := come_bd hv hf ((kidsF ns k).getD m 0).toNat
    omega
/-- spec.LostIn -/
theorem sLost (a : Option Addr) (cap : Nat) (ns : List Nd) (fl : Int) (w : World) (h : IsNd w a ns) (hn : ns.length ≤ 1048576) :
    Calls Try.prog 188 #[.slice a ns.length cap, .int .i64 fl] w fun e w' => e = .returned (.int .i64 (lostV ns fl)) ∧ Below w.heap.size w w' := by
  have VN := svn a cap ns _ h hn
  have CW := fun W => sinRange fl 0 500 W
  cases hv : vnB ns with
  | false =>
    rw [lost_no (flB_no (.inl hv))]
    rw [hv] at VN
    clear hv h
    go_enter Try.func188, Try.ntmps188
    go_wp2_with fail
    refine VN.mono ?_
    rintro e w1 ⟨rfl, C⟩
    go_wp2_with fail
    go_ret
    exact ⟨rfl, C⟩
  | true =>
  rw [hv] at VN
  cases hw : (decide (0 ≤ fl) && decide (fl ≤ 500)) with
  | false =>
    rw [lost_no (flB_no (.inr hw))]
    rw [hw] at CW
    clear hv hw h
    go_enter Try.func188, Try.ntmps188
    go_wp2_with fail
    refine VN.mono ?_
    rintro e w1 ⟨rfl, C⟩
    go_wp2_with fail
    refine (CW _).mono ?_
    rintro e w' ⟨rfl, rfl⟩
    go_wp2_with fail
    go_ret
    exact ⟨rfl, C⟩
  | true =>
  have hb : flB ns fl = true := by unfold flB; rw [hv, hw]; rfl
  rw [hw] at CW
  have hf := (flB_is hb).2
  rw [lost_yes hb]
  obtain ⟨l1, l12, _⟩ := vn_is hv
  have HF := Lib.hid (fun (W : World) (hW : Below w.heap.size w W) => sflows a cap ns fl W (nd_below h hW) hv hf)
  have HKID := Lib.hid (fun (W : World) (hW : Below w.heap.size w W) (k : Nat) => skids a cap ns (k : Int) W (nd_below h hW) hv)
  have HV := Lib.hid hv
  rcases h with rfl | ⟨g0, o, rfl, hc⟩
  · simp at l1
  have HC := Lib.hid hc
  clear hb hw hc hv
  go_enter Try.func188, Try.ntmps188
  go_wp2_with fail
  refine VN.mono ?_
  rintro e w1 ⟨rfl, C⟩
  go_wp2_with fail
  refine (CW _).mono ?_
  rintro e w' ⟨rfl, rfl⟩
  clear VN CW
  go_wp2_with fail
  refine (HF.out w1 C).mono ?_
  rintro e w2 ⟨v5, rfl, hO, hB⟩
  have hcl : (comeF ns fl).length = ns.length := comeTo_len ns fl _
  obtain ⟨cb, cc, rfl, _⟩ := hO.ints
  obtain ⟨gc, rfl, hgc⟩ := hO.form_ (by omega)
  rw [hcl] at hO ⊢
  have HO2 : Hid (OwnI w2 w1.heap.size (.slice (some ⟨gc, 0, none⟩) ns.length cc) (comeF ns fl)) := hO
  have HB2 := Lib.hid (bel_tr C hB)
  clear hO hB C HF
  go_wp2_with fail
  obtain ⟨V, hV⟩ : ∃ V, V = w2 := ⟨_, rfl⟩
  subst hV
  go_loopw [6, 7] (fun s i wr => ∃ k : Nat, k ≤ ns.length ∧ i = .int .i64 k ∧ s = .int .i64 (lostTo ns fl k) ∧ Below V.heap.size V wr) (fun _ i _ => ns.length - (intOf i).toNat)
  case atStart => exact ⟨0, Nat.zero_le _, rfl, rfl, Below.refl _ _⟩
  case round =>
    obtain ⟨k, hk, rfl, rfl, hB⟩ := hrel
    obtain ⟨s0, s1⟩ := lost_bd HV.out hf k hk
    have s2 : lostTo ns fl k ≤ 6000 := by omega
    by_cases hlt : k < ns.length
    · have CK := HKID.out wr (bel_tr HB2.out hB) k
      have hls := lostTo_succ ns fl k
      rw [loss_got HV.out hf hlt] at hls
      have hkl := kids_len ns (k : Int)
      have HKM : Hid (∀ z ∈ kidsF ns (k : Int), ∃ j : Nat, z = (j : Int) ∧ j < ns.length) := fun z hz => by obtain ⟨j, a, b, _⟩ := kids_bd hz; exact ⟨j, a, b⟩
      have HGB := Lib.hid (got_bd HV.out hf (k : Int))
      have HGG := Lib.hid (fun m (hm : m < (kidsF ns (k : Int)).length) => gotL_get ns fl (k : Int) hm)
      have hgl := gotL_len ns fl (k : Int)
      have HLS := Lib.hid hls
      have HB := Lib.hid hB
      clear hls hB s1
      generalize lostTo ns fl k = s at HLS s0 s2
      go_wp2_with fail
      refine CK.mono ?_
      rintro e w5 ⟨v8, rfl, hK, hB3⟩
      obtain ⟨kb, kcp, rfl, _⟩ := hK.ints
      have B5 := Lib.hid (bel_tr HB.out hB3)
      have O5 := Lib.hid (HO2.out.of_block B5.out)
      have HK := Lib.hid hK
      clear CK hK hB3 HB
      generalize kidsF ns (k : Int) = ks at HKM HGB HGG hgl hkl HLS HK
      generalize gotL ns fl (k : Int) = gl at HGB HGG hgl HLS
      go_wp2_with fail
      go_loop [9, 10] (fun g i => ∃ m : Nat, m ≤ ks.length ∧ i = .int .i64 m ∧ g = .int .i64 (gl.take m).sum) (fun _ i => ks.length - (intOf i).toNat)
      case atStart => exact ⟨0, Nat.zero_le _, rfl, rfl⟩
      case round =>
        obtain ⟨m, hm, rfl, rfl⟩ := hrel
        obtain ⟨t0, t1⟩ := HGB.out m hm
        by_cases hlm : m < ks.length
        · obtain ⟨gk, rfl, _⟩ := HK.out.form_ (by omega)
          have c1 := HK.out.cell hlm
          obtain ⟨j, hj, hjl⟩ := HKM.out _ (getD_mem hlm)
          have c2 := O5.out.cell (j := j) (by omega)
          have hcb := come_bd HV.out hf j
          have ht := take_sum gl m (by omega)
          rw [HGG.out m hlm, hj, show ((j : Int)).toNat = j from by omega] at ht
          rw [hj] at c1
          generalize (comeF ns fl).getD j 0 = y at c2 hcb ht
          generalize (gl.take m).sum = t at t0 t1 ht
          have HT := Lib.hid ht
          have b0 : (0 : Int) ≤ (j : Int) := by omega
          have b1 : (j : Int) < (ns.length : Int) := by omega
          have t2 : t ≤ 6000 := by omega
          clear ht hj
          go_wp2_with fail
          go_round
          case rel => exact ⟨m + 1, by omega, by go_num, by rw [HT.out]⟩
          case measure => simp [intOf]; omega
        · have hm2 : m = ks.length := by omega
          subst hm2
          rw [List.take_of_length_le (by omega)] at t0 t1 ⊢
          obtain ⟨c0, c1, c2, c3, c4⟩ := nd_at HC.out (bel_tr HB2.out B5.out) hlt
          have kc := O5.out.cell (j := k) (by omega)
          have hcb := come_bd HV.out hf k
          have hpb := passF_bd HV.out hf hlt
          obtain ⟨q1, q2, q3, q4⟩ := vn_at HV.out hlt
          have hpg := passF_get ns fl hlt
          have k0 : (0 : Int) ≤ (k : Int) := by omega
          have k1 : (k : Int) < (ns.length : Int) := by omega
          have t2 : gl.sum ≤ 6000 := by omega
          by_cases hz : ks.length = 0
          · have hls := HLS.out
            rw [if_pos hz] at hls
            have CP := fun W => spassing (ns.getD k nd0).1 (ns.getD k nd0).2.1 (ns.getD k nd0).2.2.1 (ns.getD k nd0).2.2.2.1 (ns.getD k nd0).2.2.2.2 ((comeF ns fl).getD k 0) W hcb q2 q3
            change ∀ W, Calls _ _ _ W (fun e w' => e = .returned (.int .i64 (passV (ns.getD k nd0) ((comeF ns fl).getD k 0))) ∧ Below W.heap.size W w') at CP
            rw [← hpg] at CP
            have kcW : ∀ W, Below w5.heap.size w5 W → W.cell? ⟨gc, k, none⟩ = some (.int .i64 ((comeF ns fl).getD k 0)) := fun W hW => (hW.cell (World.block_lt_of_cell? w5 _ kc)).trans kc
            have HKW := Lib.hid kcW
            generalize (comeF ns fl).getD k 0 = c at kc CP hcb hpb hls HKW
            generalize ns.getD k nd0 = nd at c0 c1 c2 c3 c4 CP hpb
            obtain ⟨x0, x1, x2, x3, x4⟩ := nd
            dsimp only at c0 c1 c2 c3 c4 CP
            generalize (passF ns fl).getD k 0 = p at CP hpb hls
            obtain ⟨n, hnn⟩ : ∃ n, ks.length = n := ⟨_, rfl⟩
            rw [hnn] at hz ⊢
            subst hz
            have HLS2 := Lib.hid hls
            have p0 := hpb.1
            have p1 := hpb.2.1
            clear hls hnn hpb q1 q2 q3 q4 hpg kcW HLS
            generalize gl.sum = gs at t0 t1 t2
            go_wp2_with fail
            refine wp_region_held_drew (S := (fun W' => (W'.cell? ⟨g0, o + k * 5, none⟩ = some (.int .i64 x0) ∧ W'.cell? ⟨g0, o + k * 5 + 1, none⟩ = some (.int .i64 x1) ∧ W'.cell? ⟨g0, o + k * 5 + 2, none⟩ = some (.int .i64 x2) ∧ W'.cell? ⟨g0, o + k * 5 + 3, none⟩ = some (.int .i64 x3) ∧ W'.cell? ⟨g0, o + k * 5 + 4, none⟩ = some (.int .i64 x4) ∧ W'.cell? ⟨gc, k, none⟩ = some (.int .i64 c)) ∧ Below w5.heap.size w5 W')) (by kernel_rfl) ?_ (fun hHeld => ?_)
            · exact ⟨⟨c0, c1, c2, c3, c4, kc⟩, (Below.refl _ _).drew⟩
            refine wpAnyH_take (i := 0) (oi := ?ooa0) (v := ?vva0) ?hia0 (by kernel_rfl) ?h3a0 ?h4a0 ?h5a0 ?h6a0 (by assumption) ?h8a0
            case hia0 => (simp only [List.getElem?_toArray, List.getElem?_cons_succ, List.getElem?_cons_zero]; rfl)
            case h3a0 => kernel_rfl
            case h4a0 => kernel_rfl
            case h6a0 => (refine Or.inl ⟨by rfl, ?_⟩; intro w hSw; (try dsimp only at hSw); (go_simp <;> with_reducible rfl))
            case h5a0 => exact fun _ _ _ h => h
            try simp only [Act.put, List.setIfInBounds_toArray, List.set_cons_zero, List.set_cons_succ]
            refine wpAnyH_take (i := 1) (oi := ?ooa1) (v := ?vva1) ?hia1 (by kernel_rfl) ?h3a1 ?h4a1 ?h5a1 ?h6a1 (by assumption) ?h8a1
            case hia1 => (simp only [List.getElem?_toArray, List.getElem?_cons_succ, List.getElem?_cons_zero]; rfl)
            case h3a1 => kernel_rfl
            case h4a1 => kernel_rfl
            case h6a1 => (refine Or.inl ⟨by rfl, ?_⟩; intro w hSw; (try dsimp only at hSw); (go_simp <;> with_reducible rfl))
            case h5a1 => exact fun _ _ _ h => h
            try simp only [Act.put, List.setIfInBounds_toArray, List.set_cons_zero, List.set_cons_succ]
            refine wpAnyH_take (i := 2) (oi := ?ooa2) (v := ?vva2) ?hia2 (by kernel_rfl) ?h3a2 ?h4a2 ?h5a2 ?h6a2 (by assumption) ?h8a2
            case hia2 => (simp only [List.getElem?_toArray, List.getElem?_cons_succ, List.getElem?_cons_zero]; rfl)
            case h3a2 => kernel_rfl
            case h4a2 => kernel_rfl
            case h6a2 => (refine Or.inl ⟨by rfl, ?_⟩; intro w hSw; (try dsimp only at hSw); (go_simp <;> with_reducible rfl))
            case h5a2 => exact fun _ _ _ h => h
            try simp only [Act.put, List.setIfInBounds_toArray, List.set_cons_zero, List.set_cons_succ]
            refine wpAnyH_take (i := 3) (oi := ?ooa3) (v := ?vva3) ?hia3 (by kernel_rfl) ?h3a3 ?h4a3 ?h5a3 ?h6a3 (by assumption) ?h8a3
            case hia3 => (simp only [List.getElem?_toArray, List.getElem?_cons_succ, List.getElem?_cons_zero]; rfl)
            case h3a3 => kernel_rfl
            case h4a3 => kernel_rfl
            case h6a3 => (refine Or.inl ⟨by rfl, ?_⟩; intro w hSw; (try dsimp only at hSw); (go_simp <;> with_reducible rfl))
            case h5a3 => exact fun _ _ _ h => h
            try simp only [Act.put, List.setIfInBounds_toArray, List.set_cons_zero, List.set_cons_succ]
            refine wpAnyH_take (i := 4) (oi := ?ooa4) (v := ?vva4) ?hia4 (by kernel_rfl) ?h3a4 ?h4a4 ?h5a4 ?h6a4 (by assumption) ?h8a4
            case hia4 => (simp only [List.getElem?_toArray, List.getElem?_cons_succ, List.getElem?_cons_zero]; rfl)
            case h3a4 => kernel_rfl
            case h4a4 => kernel_rfl
            case h6a4 => (refine Or.inl ⟨by rfl, ?_⟩; intro w hSw; (try dsimp only at hSw); (go_simp <;> with_reducible rfl))
            case h5a4 => exact fun _ _ _ h => h
            try simp only [Act.put, List.setIfInBounds_toArray, List.set_cons_zero, List.set_cons_succ]
            refine wpAnyH_take (i := 5) (oi := ?ooa5) (v := ?vva5) ?hia5 (by kernel_rfl) ?h3a5 ?h4a5 ?h5a5 ?h6a5 (by assumption) ?h8a5
            case hia5 => (simp only [List.getElem?_toArray, List.getElem?_cons_succ, List.getElem?_cons_zero]; rfl)
            case h3a5 => kernel_rfl
            case h4a5 => kernel_rfl
            case h6a5 => (refine Or.inl ⟨by rfl, ?_⟩; intro w hSw; (try dsimp only at hSw); (go_simp <;> with_reducible rfl))
            case h5a5 => exact fun _ _ _ h => h
            try simp only [Act.put, List.setIfInBounds_toArray, List.set_cons_zero, List.set_cons_succ]
            refine wpAnyH_take (i := 6) (oi := ?ooa6) (v := ?vva6) ?hia6 (by kernel_rfl) ?h3a6 ?h4a6 ?h5a6 ?h6a6 (by assumption) ?h8a6
            case hia6 => (simp only [List.getElem?_toArray, List.getElem?_cons_succ, List.getElem?_cons_zero]; rfl)
            case h3a6 => kernel_rfl
            case h4a6 => kernel_rfl
            case h6a6 => (refine Or.inl ⟨by rfl, ?_⟩; intro w hSw; (try dsimp only at hSw); (go_simp <;> with_reducible rfl))
            case h5a6 => exact fun _ _ _ h => h
            try simp only [Act.put, List.setIfInBounds_toArray, List.set_cons_zero, List.set_cons_succ]
            refine wpAnyH_take (i := 7) (oi := ?ooa7) (v := ?vva7) ?hia7 (by kernel_rfl) ?h3a7 ?h4a7 ?h5a7 ?h6a7 (by assumption) ?h8a7
            case hia7 => (simp only [List.getElem?_toArray, List.getElem?_cons_succ, List.getElem?_cons_zero]; rfl)
            case h3a7 => kernel_rfl
            case h4a7 => kernel_rfl
            case h6a7 => (refine Or.inl ⟨by rfl, ?_⟩; intro w hSw; (try dsimp only at hSw); (go_simp <;> with_reducible rfl))
            case h5a7 => exact fun _ _ _ h => h
            try simp only [Act.put, List.setIfInBounds_toArray, List.set_cons_zero, List.set_cons_succ]
            refine wpAnyH_ready (rs := [8]) (by kernel_rfl) (by simp) (AllReadyH.cons (o := ?ooa8) ?hia8 (fun K hK => ?hka8) AllReadyH.nil)
            rotate_left
            case hia8 => (simp only [List.getElem?_toArray, List.getElem?_cons_succ, List.getElem?_cons_zero]; rfl)
            (rw [if_pos (by rfl)]; go_simp; refine (CP _).mono ?_; rintro e wp ⟨rfl, hb2⟩; go_wp2_with fail; refine hK.out _ _ (kp6 hb2 hHeld) (fun hHeld => ?_); clear hK K)
            try simp only [Act.put, List.setIfInBounds_toArray, List.set_cons_zero, List.set_cons_succ]
            refine wpAnyH_take (i := 9) (oi := ?ooa9) (v := ?vva9) ?hia9 (by kernel_rfl) ?h3a9 ?h4a9 ?h5a9 ?h6a9 (by assumption) ?h8a9
            case hia9 => (simp only [List.getElem?_toArray, List.getElem?_cons_succ, List.getElem?_cons_zero]; rfl)
            case h3a9 => kernel_rfl
            case h4a9 => kernel_rfl
            case h6a9 => (refine Or.inl ⟨by rfl, ?_⟩; intro w hSw; (try dsimp only at hSw); (go_simp <;> with_reducible rfl))
            case h5a9 => exact fun _ _ _ h => h
            try simp only [Act.put, List.setIfInBounds_toArray, List.set_cons_zero, List.set_cons_succ]
            refine wpAnyH_done (by kernel_rfl) ?_ _
            have kc2 := HKW.out wp hHeld.2
            have HB6 := Lib.hid (bel_tr B5.out hHeld.2)
            clear hHeld hb2 CP c0 c1 c2 c3 c4 kc
            go_wp2_with fail
            go_roundw
            case rel => exact ⟨k + 1, by omega, by go_num, by rw [HLS2.out, show s + (c - p) = s + c - p from by omega], HB6.out⟩
            case measure => simp [intOf]; omega
          · have hls := HLS.out
            rw [if_neg hz] at hls
            have z0 : ((ks.length : Int) == 0) = false := beq_eq_false_iff_ne.2 (by omega)
            have z1 : (ks.length == 0) = false := beq_eq_false_iff_ne.2 hz
            have z2 : ¬ ks = [] := fun e => hz (by rw [e]; rfl)
            have HLS2 := Lib.hid hls
            generalize (comeF ns fl).getD k 0 = c at kc hcb HLS2
            generalize gl.sum = gs at t0 t1 t2 HLS2
            have HB6 := Lib.hid B5.out
            clear hls c0 c1 c2 c3 c4 q1 q2 q3 q4 hpg hpb HLS
            go_wp2_with fail
            go_roundw
            case rel => exact ⟨k + 1, by omega, by go_num, by rw [HLS2.out, show s + (c - gs) = s + c - gs from by omega], HB6.out⟩
            case measure => simp [intOf]; omega
    · have H4 := Lib.hid (bel_tr HB2.out hB)
      clear hB
      go_wp2_with fail
      go_ret
      exact ⟨ret_int (by rw [show k = ns.length from by omega]), H4.out⟩
/-- spec.turnAt -/
theorem sturnAt (a : Option Addr) (cap : Nat) (ts : List Tn) (t : Int) (w : World) (h : IsTn w a ts) (hv : vtB ts = true) (t0 : 0 ≤ t) (t1 : t ≤ 1000000) :
    Calls Try.prog 191 #[.slice a ts.length cap, .int .i64 t] w fun e w' => e = .returned (.int .i64 (idxT ts (t % sumT ts) : Nat)) ∧ w = w' := by
  obtain ⟨l1, l2, ho, s0, s1⟩ := vt_is hv
  have H := Lib.hid h
  have SP := speriod a cap ts w h (by omega) (vt_hz ho)
  rcases h with rfl | ⟨g, o, rfl, hc⟩
  · simp at l1
  have HC := Lib.hid hc
  have HO := Lib.hid ho
  have HP : Hid (∀ j, j < ts.length → 0 ≤ (ts.getD j tn0).2) := fun j hj => (vt_hz ho j hj).1
  have r0 := Int.emod_nonneg t (show sumT ts ≠ 0 by omega)
  have r1 := Int.emod_lt_of_pos t (show 0 < sumT ts by omega)
  have HR : Hid (t % sumT ts < sumT ts) := r1
  obtain ⟨r, hr⟩ : ∃ r, t % sumT ts = r := ⟨_, rfl⟩
  rw [hr] at HR r0 r1 ⊢
  obtain ⟨S, hS⟩ : ∃ S, sumT ts = S := ⟨_, rfl⟩
  rw [hS] at hr SP s0 s1 r1
  have HS := Lib.hid hS
  clear hc ho hv hS
  go_enter Try.func191, Try.ntmps191
  go_wp2_with fail
  refine SP.mono ?_
  rintro e w' ⟨rfl, rfl⟩
  go_wp2_with fail
  go_loop [1, 5] (fun x i => ∃ k : Nat, k < ts.length ∧ i = .int .i64 k ∧ x = .int .i64 (r - sumT (ts.take k)) ∧ Hid (sumT (ts.take k) ≤ r)) (fun _ i => ts.length - (intOf i).toNat)
  case atStart => exact ⟨0, by omega, rfl, by show Value.int .i64 (t % S) = Value.int .i64 (r - 0); rw [hr]; simp, r0⟩
  case round =>
    obtain ⟨k, hlt, rfl, rfl, hle⟩ := hrel
    obtain ⟨c0, c1⟩ := HC.out k hlt
    have hs := sumT_succ hlt
    have ok := (okT_iff ts k).1 (HO.out k hlt)
    have hsl := sumT_pos k ts (fun j hj => HP.out j (by omega))
    have hidx : r < sumT (ts.take (k + 1)) → idxT ts r = k := fun c => idx_at k ts r hlt HP.out hle.out c
    have hmore : sumT (ts.take (k + 1)) ≤ r → k + 1 < ts.length := fun c => by
      rcases Nat.lt_or_ge (k + 1) ts.length with h | h
      · exact h
      · have e : k + 1 = ts.length := by omega
        rw [e, sumT_all] at c
        have := HR.out
        omega
    rw [hs] at hidx hmore
    have hle2 := hle.out
    generalize ts.getD k tn0 = hh at c0 c1 hs hidx hmore ok
    obtain ⟨x, y⟩ := hh
    dsimp only at c0 c1 hs hidx hmore ok
    have y0 : 1 ≤ y := ok.2.2.1
    have y1 : y ≤ 336 := ok.2.2.2
    generalize sumT (ts.take k) = s at hs hidx hmore hle hle2 hsl
    have HSs := Lib.hid hs
    have HI := Lib.hid hidx
    have HM := Lib.hid hmore
    clear hs hidx hmore ok
    by_cases c : y ≤ r - s
    · have HM2 := HM.out (by omega)
      have e1 : decide (y ≤ r - s) = true := decide_eq_true c
      have hle3 : Hid (s + y ≤ r) := by show s + y ≤ r; omega
      clear hle hle2
      go_wp2
      go_round
      case rel => exact ⟨k + 1, HM2, by go_num, by rw [HSs.out]; congr 1; omega, by rw [HSs.out]; exact hle3.out⟩
      case measure => simp [intOf]; omega
    · have e1 : decide (y ≤ r - s) = false := decide_eq_false c
      have HI2 := Lib.hid (HI.out (by omega))
      clear hle hle2 c
      go_wp2
      go_ret
      exact ⟨ret_int (by rw [HI2.out]), rfl⟩
theorem vl_len {hs : List Hd} (h : vlR hs = true) : hs.length ≤ 12 := by
  unfold vlR at h
  simp only [Bool.and_eq_true, decide_eq_true_eq] at h
  exact h.1.1.1
end Go.Proofs.Ytaehemmjemhgpaa
