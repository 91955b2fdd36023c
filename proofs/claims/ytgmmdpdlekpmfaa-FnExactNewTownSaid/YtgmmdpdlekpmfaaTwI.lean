/- Accounts and towns that are read, by the program. Condition: at most 1048576 of each. -/
import Derived.Test.YtgmmdpdlekpmfaaTwB
import Derived.Test.YtgmmdpdlekpmfaaTurnI
import Derived.Test.YtgmmdpdlekpmfaaNodI
import Derived.Test.YtgmmdpdlekpmfaaBasI
import Derived.Deep.RegionHeld3
import Derived.Deep.RegionWith
import Derived.Deep.QuietTactic
import Derived.BigQuiet
import Derived.RegionTactic
namespace Go.Proofs.Ytgmmdpdlekpmfaa
open Go.RowKit
set_option linter.unusedSimpArgs false
set_option linter.unusedVariables false
set_option maxRecDepth 100000 in
set_option maxHeartbeats 4000000 in
/-- impl.areAccounts -/
theorem iareA (a : Option Addr) (cap : Nat) (ac : List Ac) (w : World) (h : IsAc w a ac) (hn : ac.length ≤ 1048576) :
    Calls Try.prog 53 #[.slice a ac.length cap] w fun e w' => e = .returned (.bool (acB ac)) ∧ Below w.heap.size w w' := by
  rcases h with rfl | ⟨g, o, rfl, hc⟩
  · go_enter Try.func53, Try.ntmps53
    go_wp2_with fail
    go_rounds 1
    go_ret
    exact ⟨rfl, by go_grown⟩
  · have HC := Lib.hid hc
    clear hc
    go_enter Try.func53, Try.ntmps53
    go_wp2_with fail
    go_loopw [3, 8] (fun l i wr => ∃ k : Nat, k ≤ ac.length ∧ i = .int .i64 k ∧ l = .int .i64 (lastA ac k) ∧ Hid (∀ j, j < k → okAc ac j = true) ∧ Below w.heap.size w wr) (fun _ i _ => ac.length - (intOf i).toNat)
    case atStart => exact ⟨0, Nat.zero_le _, rfl, rfl, (fun j hj => absurd hj (Nat.not_lt_zero _)), by go_grown⟩
    case round =>
      obtain ⟨k, hk, rfl, rfl, HA, hB⟩ := hrel
      by_cases hlt : k < ac.length
      · obtain ⟨x0, x1⟩ := ac_at HC.out hB hlt
        have HN := Lib.hid (acB_no (ac := ac) hlt)
        have HY := Lib.hid (fun e => rng_more (f := okAc ac) HA.out ((okAc_last ac k).2 e))
        have HE : Hid (lastA ac (k + 1) = (ac.getD k ac0).1) := rfl
        generalize lastA ac k = l at HN HY ⊢
        generalize ac.getD k ac0 = q at x0 x1 HN HY HE
        obtain ⟨x, y⟩ := q
        dsimp only at x0 x1
        have HB := Lib.hid hB
        clear hB
        by_cases h1 : x ≤ l
        · have e1 : decide (x ≤ l) = true := decide_eq_true h1
          have hv : Hid (acB ac = false) := HN.out (fun c => by have := c.1; dsimp only at this; omega)
          go_wp2_with fail
          go_ret
          exact ⟨ret_bool hv.out.symm, HB.out.alloc HB.out.size _⟩
        have e1 : decide (x ≤ l) = false := decide_eq_false h1
        obtain ⟨b2, hb2⟩ : ∃ b, inB3 x 1 999 = b := ⟨_, rfl⟩
        have IO := fun W => iowner3 x W
        rw [hb2] at IO
        cases b2 with
        | false =>
          have hv : Hid (acB ac = false) := HN.out (fun c => by have h3 := inB3_no hb2; have h4 := c.2.1; have h5 := c.2.2.1; dsimp only at h4 h5; omega)
          go_wp2_with fail
          refine (IO _).mono ?_
          rintro e w' ⟨rfl, rfl⟩
          go_wp2_with fail
          go_ret
          exact ⟨ret_bool hv.out.symm, HB.out.alloc HB.out.size _⟩
        | true =>
          by_cases h3 : y < 1
          · have d3 : decide (y < 1) = true := decide_eq_true h3
            have hv : Hid (acB ac = false) := HN.out (fun c => by have h4 := c.2.2.2.1; dsimp only at h4; omega)
            go_wp2_with fail
            refine (IO _).mono ?_
            rintro e w' ⟨rfl, rfl⟩
            go_wp2_with fail
            go_ret
            exact ⟨ret_bool hv.out.symm, HB.out.alloc HB.out.size _⟩
          have d3 : decide (y < 1) = false := decide_eq_false h3
          by_cases h4 : 1000000 < y
          · have d4 : decide (1000000 < y) = true := decide_eq_true h4
            have hv : Hid (acB ac = false) := HN.out (fun c => by have h4 := c.2.2.2.2; dsimp only at h4; omega)
            go_wp2_with fail
            refine (IO _).mono ?_
            rintro e w' ⟨rfl, rfl⟩
            go_wp2_with fail
            go_ret
            exact ⟨ret_bool hv.out.symm, HB.out.alloc HB.out.size _⟩
          have d4 : decide (1000000 < y) = false := decide_eq_false h4
          have HY2 := Lib.hid (HY.out ⟨by dsimp only; omega, (inB3_yes hb2).1, (inB3_yes hb2).2, by dsimp only; omega, by dsimp only; omega⟩)
          go_wp2_with fail
          refine (IO _).mono ?_
          rintro e w' ⟨rfl, rfl⟩
          go_wp2_with fail
          go_roundw
          case rel => exact ⟨k + 1, by omega, by go_num, by rw [HE.out], HY2.out, HB.out.alloc HB.out.size _⟩
          case measure => simp [intOf]; omega
      · have HE : Hid (acB ac = true) := rng_yes (fun j hj => HA.out j (by omega))
        go_wp2_with fail
        go_ret
        exact ⟨ret_bool HE.out.symm, hB⟩
set_option maxRecDepth 100000 in
set_option maxHeartbeats 4000000 in
/-- impl.unitsIn -/
theorem iunits (a : Option Addr) (cap : Nat) (ac : List Ac) (w : World) (h : IsAc w a ac) (hn : ac.length ≤ 1048576) (hv : acB ac = true) :
    Calls Try.prog 56 #[.slice a ac.length cap] w fun e w' => e = .returned (.int .i64 (acS ac ac.length)) ∧ Below w.heap.size w w' := by
  rcases h with rfl | ⟨g, o, rfl, hc⟩
  · go_enter Try.func56, Try.ntmps56
    go_wp2_with fail
    go_rounds 1
    go_ret
    exact ⟨rfl, by go_grown⟩
  · have HC := Lib.hid hc
    have HB := Lib.hid (acS_bd hv)
    have HV := Lib.hid hv
    clear hc hv
    go_enter Try.func56, Try.ntmps56
    go_wp2_with fail
    go_loopw [3, 8] (fun s i wr => ∃ k : Nat, k ≤ ac.length ∧ i = .int .i64 k ∧ s = .int .i64 (acS ac k) ∧ Below w.heap.size w wr) (fun _ i _ => ac.length - (intOf i).toNat)
    case atStart => exact ⟨0, Nat.zero_le _, rfl, rfl, by go_grown⟩
    case round =>
      obtain ⟨k, hk, rfl, rfl, hB⟩ := hrel
      obtain ⟨b0, b1⟩ := HB.out k hk
      by_cases hlt : k < ac.length
      · obtain ⟨x0, x1⟩ := ac_at HC.out hB hlt
        have ht : acS ac (k + 1) = acS ac k + (ac.getD k ac0).2 := rfl
        obtain ⟨_, _, z0, z1, _⟩ := (okAc_iff ac k).1 (acB_at HV.out hlt)
        generalize ac.getD k ac0 = hh at x0 x1 ht z0 z1
        obtain ⟨x, y⟩ := hh
        dsimp only at x0 x1 ht z0 z1
        generalize acS ac k = s at ht b0 b1
        have HT := Lib.hid ht
        have HBl := Lib.hid hB
        clear ht hB
        go_wp2
        go_roundw
        case rel => exact ⟨k + 1, by omega, by go_num, by rw [HT.out], HBl.out.alloc HBl.out.size _⟩
        case measure => simp [intOf]; omega
      · obtain rfl : k = ac.length := by omega
        go_wp2
        go_ret
        exact ⟨rfl, hB⟩
set_option maxRecDepth 100000 in
set_option maxHeartbeats 4000000 in
/-- impl.ValidTown -/
theorem iVTw (p : TA) (t : Tw) (w : World) (h : IsTw w p t) :
    Calls Try.prog 14 #[twV p t] w fun e w' => e = .returned (.bool (twB t)) ∧ Below w.heap.size w w' := by
  obtain ⟨a1, c1, a2, c2, a3, c3, a4, c4⟩ := p
  obtain ⟨hs, ts, ns, r, hd, ac, rt, tm, ls, cm⟩ := t
  obtain ⟨h1, h2, h3, h4, n1, n2, n3, n4, k1, k2, k3, k4⟩ := h
  dsimp only at h1 h2 h3 h4 n1 n2 n3 n4 k1 k2 k3 k4
  have C1 := fun W (hW : Below w.heap.size w W) => iVL a1 c1 hs W (hs_below h1 hW) n1
  have C2 := fun W (hW : Below w.heap.size w W) => iVT a2 c2 ts W (tn_below h2 hW) n2
  have C3 := fun W (hW : Below w.heap.size w W) => iVN a3 c3 ns W (nd_below h3 hW) n3 k3
  have C4 := fun W => iVB r hd W
  have C5 := fun W (hW : Below w.heap.size w W) => iareA a4 c4 ac W (ac_below h4 hW) n4
  have C6 := fun W (hW : Below w.heap.size w W) (hv : acB ac = true) => iunits a4 c4 ac W (ac_below h4 hW) n4 hv
  obtain ⟨R, hR⟩ : ∃ R, twB ⟨hs, ts, ns, r, hd, ac, rt, tm, ls, cm⟩ = R := ⟨_, rfl⟩
  rw [hR]
  unfold twB at hR
  dsimp only at hR
  have HS5 := Lib.hid (fun (hv : acB ac = true) => acS_bd hv ac.length (Nat.le_refl _))
  obtain ⟨s, hs_⟩ : ∃ s, acS ac ac.length = s := ⟨_, rfl⟩
  rw [hs_] at HS5 C6 hR
  obtain ⟨b1, e1⟩ : ∃ b, vlR hs = b := ⟨_, rfl⟩
  obtain ⟨b2, e2⟩ : ∃ b, vtB ts = b := ⟨_, rfl⟩
  obtain ⟨b3, e3⟩ : ∃ b, vnB ns = b := ⟨_, rfl⟩
  obtain ⟨b4, e4⟩ : ∃ b, vbB r hd = b := ⟨_, rfl⟩
  obtain ⟨b5, e5⟩ : ∃ b, acB ac = b := ⟨_, rfl⟩
  obtain ⟨b6, e6⟩ : ∃ b, inB3 rt 0 500 = b := ⟨_, rfl⟩
  obtain ⟨b7, e7⟩ : ∃ b, inB3 tm 0 5000 = b := ⟨_, rfl⟩
  obtain ⟨b8, e8⟩ : ∃ b, inB3 ls 0 1000000 = b := ⟨_, rfl⟩
  obtain ⟨b9, e9⟩ : ∃ b, inB3 cm 0 1000000 = b := ⟨_, rfl⟩
  rw [e1] at C1 hR
  rw [e2] at C2 hR
  rw [e3] at C3 hR
  rw [e4] at C4 hR
  rw [e5] at C5 hR
  rw [e6, e7, e8, e9] at hR
  have E4 := Lib.hid e4
  have E5 := Lib.hid e5
  have E6 := Lib.hid e6
  have E7 := Lib.hid e7
  have E8 := Lib.hid e8
  have E9 := Lib.hid e9
  have HR := Lib.hid hR
  have H1 := Lib.hid C1
  have H2 := Lib.hid C2
  have H3 := Lib.hid C3
  have H4 := Lib.hid C4
  have H5 := Lib.hid C5
  have H6 := Lib.hid C6
  clear h1 h2 h3 h4 k1 k2 k3 k4 e1 e2 e3 e4 e5 e6 e7 e8 e9 hR C1 C2 C3 C4 C5 C6 hs_ n1 n2 n3
  show Calls _ _ #[.agg #[.slice a1 hs.length c1, .slice a2 ts.length c2, .slice a3 ns.length c3, .int .i64 r, .int .i64 hd, .slice a4 ac.length c4, .int .i64 rt, .int .i64 tm, .int .i64 ls, .int .i64 cm]] _ _
  go_enter Try.func14, Try.ntmps14
  have K := Blk.new w 38 #[.slice a1 hs.length c1, .slice a2 ts.length c2, .slice a3 ns.length c3, .int .i64 r, .int .i64 hd, .slice a4 ac.length c4, .int .i64 rt, .int .i64 tm, .int .i64 ls, .int .i64 cm]
  have B := (Below.refl w.heap.size w).alloc (Nat.le_refl _) (.cells #[.slice a1 hs.length c1, .slice a2 ts.length c2, .slice a3 ns.length c3, .int .i64 r, .int .i64 hd, .slice a4 ac.length c4, .int .i64 rt, .int .i64 tm, .int .i64 ls, .int .i64 cm] 38)
  obtain ⟨q0, q1, q2, q3, q4, q5, q6, q7, q8, q9⟩ := town_cells K
  go_wp2_with fail
  generalize w.alloc (.cells #[.slice a1 hs.length c1, .slice a2 ts.length c2, .slice a3 ns.length c3, .int .i64 r, .int .i64 hd, .slice a4 ac.length c4, .int .i64 rt, .int .i64 tm, .int .i64 ls, .int .i64 cm] 38) = U at K B q0 q1 q2 q3 q4 q5 q6 q7 q8 q9 ⊢
  refine (H1.out _ B).mono ?_
  rintro e u ⟨rfl, C⟩
  replace K := K.next C
  replace B := bel_tr B C
  clear C q0 q1 q2 q3 q4 q5 q6 q7 q8 q9
  obtain ⟨q0, q1, q2, q3, q4, q5, q6, q7, q8, q9⟩ := town_cells K
  cases b1 with
  | false =>
    go_wp2_with fail
    go_ret
    exact ⟨ret_bool HR.out, B⟩
  | true =>
  go_wp2_with fail
  refine (H2.out _ B).mono ?_
  rintro e u ⟨rfl, C⟩
  replace K := K.next C
  replace B := bel_tr B C
  clear C q0 q1 q2 q3 q4 q5 q6 q7 q8 q9
  obtain ⟨q0, q1, q2, q3, q4, q5, q6, q7, q8, q9⟩ := town_cells K
  cases b2 with
  | false =>
    go_wp2_with fail
    go_ret
    exact ⟨ret_bool HR.out, B⟩
  | true =>
  go_wp2_with fail
  refine (H3.out _ B).mono ?_
  rintro e u ⟨rfl, C⟩
  replace K := K.next C
  replace B := bel_tr B C
  clear C q0 q1 q2 q3 q4 q5 q6 q7 q8 q9
  obtain ⟨q0, q1, q2, q3, q4, q5, q6, q7, q8, q9⟩ := town_cells K
  cases b3 with
  | false =>
    go_wp2_with fail
    go_ret
    exact ⟨ret_bool HR.out, B⟩
  | true =>
  go_wp2_with fail
  refine (H4.out _).mono ?_
  rintro e u ⟨rfl, C⟩
  replace K := K.next C
  replace B := bel_tr B C
  clear C q0 q1 q2 q3 q4 q5 q6 q7 q8 q9
  obtain ⟨q0, q1, q2, q3, q4, q5, q6, q7, q8, q9⟩ := town_cells K
  cases b4 with
  | false =>
    go_wp2_with fail
    go_ret
    exact ⟨ret_bool HR.out, B⟩
  | true =>
  go_wp2_with fail
  refine (H5.out _ B).mono ?_
  rintro e u ⟨rfl, C⟩
  replace K := K.next C
  replace B := bel_tr B C
  clear C q0 q1 q2 q3 q4 q5 q6 q7 q8 q9
  obtain ⟨q0, q1, q2, q3, q4, q5, q6, q7, q8, q9⟩ := town_cells K
  cases b5 with
  | false =>
    go_wp2_with fail
    go_ret
    exact ⟨ret_bool HR.out, B⟩
  | true =>
  go_wp2_with fail
  refine (iwithin3 rt 500 _).mono ?_
  rintro e u ⟨rfl, rfl⟩
  rw [E6.out]
  cases b6 with
  | false =>
    go_wp2_with fail
    go_ret
    exact ⟨ret_bool HR.out, B⟩
  | true =>
  go_wp2_with fail
  refine (itime3 tm _).mono ?_
  rintro e u ⟨rfl, rfl⟩
  rw [E7.out]
  cases b7 with
  | false =>
    go_wp2_with fail
    go_ret
    exact ⟨ret_bool HR.out, B⟩
  | true =>
  go_wp2_with fail
  refine (iwithin3 ls 1000000 _).mono ?_
  rintro e u ⟨rfl, rfl⟩
  rw [E8.out]
  cases b8 with
  | false =>
    go_wp2_with fail
    go_ret
    exact ⟨ret_bool HR.out, B⟩
  | true =>
  go_wp2_with fail
  refine (iwithin3 cm 1000000 _).mono ?_
  rintro e u ⟨rfl, rfl⟩
  rw [E9.out]
  cases b9 with
  | false =>
    go_wp2_with fail
    go_ret
    exact ⟨ret_bool HR.out, B⟩
  | true =>
  obtain ⟨s0, s1⟩ := HS5.out E5.out
  have v4 : 0 ≤ hd ∧ hd ≤ 20000 := by have := vb_iff.1 E4.out; omega
  obtain ⟨v5, v6⟩ := inB3_yes E8.out
  obtain ⟨v7, v8⟩ := v4
  have hlen : (ac.length : Int) ≤ 1048576 := by omega
  have w1 : IntKind.i64.wrap (s + hd) = s + hd := by rw [IntKind.wrap_i64]; omega
  have w2 : IntKind.i64.wrap (s + hd + ls) = s + hd + ls := by rw [IntKind.wrap_i64]; omega
  clear HS5 hlen n4 s0 s1 v5 v6 v7 v8
  have HQ := Lib.hid (fun W hW => H6.out W hW E5.out)
  go_wp2_with fail
  have HMK1 := Lib.hid (fun (W : World) (hW : Below u.heap.size u W) => (⟨⟨(hW.cell (p := ⟨w.heap.size, 4, none⟩) (K.lt)).trans q4, (hW.cell (p := ⟨w.heap.size, 5, none⟩) (K.lt)).trans q5, (hW.cell (p := ⟨w.heap.size, 8, none⟩) (K.lt)).trans q8, (hW.cell (p := ⟨w.heap.size, 9, none⟩) (K.lt)).trans q9⟩, hW⟩ : (W.cell? ⟨w.heap.size, 4, none⟩ = some (.int .i64 hd) ∧ W.cell? ⟨w.heap.size, 5, none⟩ = some (.slice a4 ac.length c4) ∧ W.cell? ⟨w.heap.size, 8, none⟩ = some (.int .i64 ls) ∧ W.cell? ⟨w.heap.size, 9, none⟩ = some (.int .i64 cm)) ∧ Below u.heap.size u W))
  refine wp_region_held_drew (S := (fun w' => (w'.cell? ⟨w.heap.size, 4, none⟩ = some (.int .i64 hd) ∧ w'.cell? ⟨w.heap.size, 5, none⟩ = some (.slice a4 ac.length c4) ∧ w'.cell? ⟨w.heap.size, 8, none⟩ = some (.int .i64 ls) ∧ w'.cell? ⟨w.heap.size, 9, none⟩ = some (.int .i64 cm)) ∧ Below u.heap.size u w')) (by kernel_rfl) ?_ (fun hHeld => ?_)
  · exact ⟨⟨q4, q5, q8, q9⟩, (Below.refl _ _).drew⟩
  refine wpAnyH_take (i := 0) (oi := ?ooa2_) (v := ?vva2_) ?hia2_ (by kernel_rfl) ?h3a2_ ?h4a2_ ?h5a2_ ?h6a2_ (by assumption) ?h8a2_
  case hia2_ => (simp only [List.getElem?_toArray, List.getElem?_cons_succ, List.getElem?_cons_zero]; rfl)
  case h3a2_ => kernel_rfl
  case h4a2_ => kernel_rfl
  case h6a2_ => (refine Or.inl ⟨by rfl, ?_⟩; intro w hSw; (try dsimp only at hSw); (go_simp <;> with_reducible rfl))
  case h5a2_ => exact fun _ _ _ h => h
  try simp only [Act.put, List.setIfInBounds_toArray, List.set_cons_zero, List.set_cons_succ]
  refine wpAnyH_take (i := 1) (oi := ?ooa3_) (v := ?vva3_) ?hia3_ (by kernel_rfl) ?h3a3_ ?h4a3_ ?h5a3_ ?h6a3_ (by assumption) ?h8a3_
  case hia3_ => (simp only [List.getElem?_toArray, List.getElem?_cons_succ, List.getElem?_cons_zero]; rfl)
  case h3a3_ => kernel_rfl
  case h4a3_ => kernel_rfl
  case h6a3_ => (refine Or.inl ⟨by rfl, ?_⟩; intro w hSw; (try dsimp only at hSw); (go_simp <;> with_reducible rfl))
  case h5a3_ => exact fun _ _ _ h => h
  try simp only [Act.put, List.setIfInBounds_toArray, List.set_cons_zero, List.set_cons_succ]
  refine wpAnyH_take (i := 3) (oi := ?ooa4_) (v := ?vva4_) ?hia4_ (by kernel_rfl) ?h3a4_ ?h4a4_ ?h5a4_ ?h6a4_ (by assumption) ?h8a4_
  case hia4_ => (simp only [List.getElem?_toArray, List.getElem?_cons_succ, List.getElem?_cons_zero]; rfl)
  case h3a4_ => kernel_rfl
  case h4a4_ => kernel_rfl
  case h6a4_ => (refine Or.inl ⟨by rfl, ?_⟩; intro w hSw; (try dsimp only at hSw); (go_simp <;> with_reducible rfl))
  case h5a4_ => exact fun _ _ _ h => h
  try simp only [Act.put, List.setIfInBounds_toArray, List.set_cons_zero, List.set_cons_succ]
  refine wpAnyH_take (i := 4) (oi := ?ooa5_) (v := ?vva5_) ?hia5_ (by kernel_rfl) ?h3a5_ ?h4a5_ ?h5a5_ ?h6a5_ (by assumption) ?h8a5_
  case hia5_ => (simp only [List.getElem?_toArray, List.getElem?_cons_succ, List.getElem?_cons_zero]; rfl)
  case h3a5_ => kernel_rfl
  case h4a5_ => kernel_rfl
  case h6a5_ => (refine Or.inl ⟨by rfl, ?_⟩; intro w hSw; (try dsimp only at hSw); (go_simp <;> with_reducible rfl))
  case h5a5_ => exact fun _ _ _ h => h
  try simp only [Act.put, List.setIfInBounds_toArray, List.set_cons_zero, List.set_cons_succ]
  refine wpAnyH_take (i := 5) (oi := ?ooa6_) (v := ?vva6_) ?hia6_ (by kernel_rfl) ?h3a6_ ?h4a6_ ?h5a6_ ?h6a6_ (by assumption) ?h8a6_
  case hia6_ => (simp only [List.getElem?_toArray, List.getElem?_cons_succ, List.getElem?_cons_zero]; rfl)
  case h3a6_ => kernel_rfl
  case h4a6_ => kernel_rfl
  case h6a6_ => (refine Or.inl ⟨by rfl, ?_⟩; intro w hSw; (try dsimp only at hSw); (go_simp <;> with_reducible rfl))
  case h5a6_ => exact fun _ _ _ h => h
  try simp only [Act.put, List.setIfInBounds_toArray, List.set_cons_zero, List.set_cons_succ]
  refine wpAnyH_take (i := 7) (oi := ?ooa7_) (v := ?vva7_) ?hia7_ (by kernel_rfl) ?h3a7_ ?h4a7_ ?h5a7_ ?h6a7_ (by assumption) ?h8a7_
  case hia7_ => (simp only [List.getElem?_toArray, List.getElem?_cons_succ, List.getElem?_cons_zero]; rfl)
  case h3a7_ => kernel_rfl
  case h4a7_ => kernel_rfl
  case h6a7_ => (refine Or.inl ⟨by rfl, ?_⟩; intro w hSw; (try dsimp only at hSw); (go_simp <;> with_reducible rfl))
  case h5a7_ => exact fun _ _ _ h => h
  try simp only [Act.put, List.setIfInBounds_toArray, List.set_cons_zero, List.set_cons_succ]
  refine wpAnyH_take (i := 8) (oi := ?ooa8_) (v := ?vva8_) ?hia8_ (by kernel_rfl) ?h3a8_ ?h4a8_ ?h5a8_ ?h6a8_ (by assumption) ?h8a8_
  case hia8_ => (simp only [List.getElem?_toArray, List.getElem?_cons_succ, List.getElem?_cons_zero]; rfl)
  case h3a8_ => kernel_rfl
  case h4a8_ => kernel_rfl
  case h6a8_ => (refine Or.inl ⟨by rfl, ?_⟩; intro w hSw; (try dsimp only at hSw); (go_simp <;> with_reducible rfl))
  case h5a8_ => exact fun _ _ _ h => h
  try simp only [Act.put, List.setIfInBounds_toArray, List.set_cons_zero, List.set_cons_succ]
  refine wpAnyH_take (i := 10) (oi := ?ooa9_) (v := ?vva9_) ?hia9_ (by kernel_rfl) ?h3a9_ ?h4a9_ ?h5a9_ ?h6a9_ (by assumption) ?h8a9_
  case hia9_ => (simp only [List.getElem?_toArray, List.getElem?_cons_succ, List.getElem?_cons_zero]; rfl)
  case h3a9_ => kernel_rfl
  case h4a9_ => kernel_rfl
  case h6a9_ => (refine Or.inl ⟨by rfl, ?_⟩; intro w hSw; (try dsimp only at hSw); (go_simp <;> with_reducible rfl))
  case h5a9_ => exact fun _ _ _ h => h
  try simp only [Act.put, List.setIfInBounds_toArray, List.set_cons_zero, List.set_cons_succ]
  refine wpAnyH_take (i := 11) (oi := ?ooa10_) (v := ?vva10_) ?hia10_ (by kernel_rfl) ?h3a10_ ?h4a10_ ?h5a10_ ?h6a10_ (by assumption) ?h8a10_
  case hia10_ => (simp only [List.getElem?_toArray, List.getElem?_cons_succ, List.getElem?_cons_zero]; rfl)
  case h3a10_ => kernel_rfl
  case h4a10_ => kernel_rfl
  case h6a10_ => (refine Or.inl ⟨by rfl, ?_⟩; intro w hSw; (try dsimp only at hSw); (go_simp <;> with_reducible rfl))
  case h5a10_ => exact fun _ _ _ h => h
  try simp only [Act.put, List.setIfInBounds_toArray, List.set_cons_zero, List.set_cons_succ]
  refine wpAnyH_ready (rs := [2]) (by kernel_rfl) (by simp) (AllReadyH.cons (o := ?ooa11_q0) ?hia11_q0 (fun K hK => ?hka11_q0) AllReadyH.nil)
  case hia11_q0 => (simp only [List.getElem?_toArray, List.getElem?_cons_succ, List.getElem?_cons_zero]; rfl)
  case hka11_q0 =>
    (rw [if_pos (by rfl)]; go_simp; refine (HQ.out _ (bel_tr B hHeld.2)).mono ?_; rintro e w2_ ⟨rfl, hb⟩; go_wp2_with fail; refine hK.out _ _ (HMK1.out _ (bel_tr hHeld.2 hb)) (fun hHeld => ?_); clear hK K)
    try simp only [Act.put, List.setIfInBounds_toArray, List.set_cons_zero, List.set_cons_succ]
    refine wpAnyH_take (i := 6) (oi := ?ooa12_) (v := ?vva12_) ?hia12_ (by kernel_rfl) ?h3a12_ ?h4a12_ ?h5a12_ ?h6a12_ (by assumption) ?h8a12_
    case hia12_ => (simp only [List.getElem?_toArray, List.getElem?_cons_succ, List.getElem?_cons_zero]; rfl)
    case h3a12_ => kernel_rfl
    case h4a12_ => kernel_rfl
    case h6a12_ => (refine Or.inl ⟨by rfl, ?_⟩; intro w hSw; (try dsimp only at hSw); (go_simp <;> with_reducible rfl))
    case h5a12_ => exact fun _ _ _ h => h
    try simp only [Act.put, List.setIfInBounds_toArray, List.set_cons_zero, List.set_cons_succ]
    refine wpAnyH_take (i := 9) (oi := ?ooa13_) (v := ?vva13_) ?hia13_ (by kernel_rfl) ?h3a13_ ?h4a13_ ?h5a13_ ?h6a13_ (by assumption) ?h8a13_
    case hia13_ => (simp only [List.getElem?_toArray, List.getElem?_cons_succ, List.getElem?_cons_zero]; rfl)
    case h3a13_ => kernel_rfl
    case h4a13_ => kernel_rfl
    case h6a13_ => (refine Or.inl ⟨by rfl, ?_⟩; intro w hSw; (try dsimp only at hSw); (go_simp <;> with_reducible rfl))
    case h5a13_ => exact fun _ _ _ h => h
    try simp only [Act.put, List.setIfInBounds_toArray, List.set_cons_zero, List.set_cons_succ]
    refine wpAnyH_take (i := 12) (oi := ?ooa14_) (v := ?vva14_) ?hia14_ (by kernel_rfl) ?h3a14_ ?h4a14_ ?h5a14_ ?h6a14_ (by assumption) ?h8a14_
    case hia14_ => (simp only [List.getElem?_toArray, List.getElem?_cons_succ, List.getElem?_cons_zero]; rfl)
    case h3a14_ => kernel_rfl
    case h4a14_ => kernel_rfl
    case h6a14_ => (refine Or.inl ⟨by rfl, ?_⟩; intro w hSw; (try dsimp only at hSw); (go_simp <;> with_reducible rfl))
    case h5a14_ => exact fun _ _ _ h => h
    try simp only [Act.put, List.setIfInBounds_toArray, List.set_cons_zero, List.set_cons_succ]
    refine wpAnyH_take (i := 13) (oi := ?ooa15_) (v := ?vva15_) ?hia15_ (by kernel_rfl) ?h3a15_ ?h4a15_ ?h5a15_ ?h6a15_ (by assumption) ?h8a15_
    case hia15_ => (simp only [List.getElem?_toArray, List.getElem?_cons_succ, List.getElem?_cons_zero]; rfl)
    case h3a15_ => kernel_rfl
    case h4a15_ => kernel_rfl
    case h6a15_ => (refine Or.inl ⟨by rfl, ?_⟩; intro w hSw; (try dsimp only at hSw); (go_simp <;> with_reducible rfl))
    case h5a15_ => exact fun _ _ _ h => h
    try simp only [Act.put, List.setIfInBounds_toArray, List.set_cons_zero, List.set_cons_succ]
    refine wpAnyH_done (by kernel_rfl) ?_ _
    clear HMK1
    have B2 := bel_tr B hHeld.2
    clear hHeld
    go_wp2_with fail
    go_ret
    exact ⟨itown_last R HR.out.symm, B2⟩
end Go.Proofs.Ytgmmdpdlekpmfaa
