/- Least flows, by the model. Condition: at most 1048576 nodes. -/
import Derived.Test.YtlpmeljneogpiabFlowT
import Derived.Test.YtlpmeljneogpiabVfl
import Derived.Deep.RegionHeld3
namespace Go.Proofs.Ytlpmeljneogpiab
open Go.RowKit
set_option linter.unusedSimpArgs false
set_option linter.unusedVariables false
set_option maxRecDepth 100000 in
set_option maxHeartbeats 8000000 in
/-- spec.delivered -/
theorem sdelivered (a : Option Addr) (cap : Nat) (ns : List Nd) (k : Nat) (fl : Int) (w : World) (h : IsNd w a ns) (hv : vnB ns = true) (hk : k < ns.length) (hf : 0 ≤ fl ∧ fl ≤ 500) :
    Calls Try.prog 48 #[.slice a ns.length cap, .int .i64 (k : Int), .int .i64 fl] w fun e w' => e = .returned (.int .i64 ((passF ns fl).getD k 0)) ∧ Below w.heap.size w w' := by
  obtain ⟨l1, l12, _⟩ := vn_is hv
  have HF := Lib.hid (fun (W : World) (hW : Below w.heap.size w W) => sflows a cap ns fl W (nd_below h hW) hv hf)
  have HL : Hid ((comeF ns fl).length = ns.length) := comeTo_len ns fl _
  rcases h with rfl | ⟨g0, o, rfl, hc⟩
  · simp at l1
  obtain ⟨c0, c1, c2, c3, c4⟩ := hc k hk
  obtain ⟨q1, q2, q3, q4⟩ := vn_at hv hk
  have hcb := come_bd hv hf k
  have hpg := passF_get ns fl hk
  have CP := fun W => spassing (ns.getD k nd0).1 (ns.getD k nd0).2.1 (ns.getD k nd0).2.2.1 (ns.getD k nd0).2.2.2.1 (ns.getD k nd0).2.2.2.2 ((comeF ns fl).getD k 0) W hcb q2 q3
  change ∀ W, Calls _ _ _ W (fun e w' => e = .returned (.int .i64 (passV (ns.getD k nd0) ((comeF ns fl).getD k 0))) ∧ Below W.heap.size W w') at CP
  rw [← hpg] at CP
  generalize ns.getD k nd0 = nd at c0 c1 c2 c3 c4 CP
  obtain ⟨x0, x1, x2, x3, x4⟩ := nd
  dsimp only at c0 c1 c2 c3 c4 CP
  generalize (passF ns fl).getD k 0 = p at CP
  have k0 : (0 : Int) ≤ (k : Int) := by omega
  have k1 : (k : Int) < (ns.length : Int) := by omega
  clear hcb hpg q1 q2 q3 q4 hc hv
  go_enter Try.func48, Try.ntmps48
  go_wp2_with fail
  refine wp_region_held_drew (S := (fun W' => (W'.cell? ⟨g0, o + k * 5, none⟩ = some (.int .i64 x0) ∧ W'.cell? ⟨g0, o + k * 5 + 1, none⟩ = some (.int .i64 x1) ∧ W'.cell? ⟨g0, o + k * 5 + 2, none⟩ = some (.int .i64 x2) ∧ W'.cell? ⟨g0, o + k * 5 + 3, none⟩ = some (.int .i64 x3) ∧ W'.cell? ⟨g0, o + k * 5 + 4, none⟩ = some (.int .i64 x4) ∧ W'.cell? ⟨g0, o + k * 5 + 4, none⟩ = some (.int .i64 x4)) ∧ Below w.heap.size w W')) (by kernel_rfl) ?_ (fun hHeld => ?_)
  · exact ⟨⟨c0, c1, c2, c3, c4, c4⟩, (Below.refl _ _).drew⟩
  refine wpAnyH_take (i := 0) (oi := ?oob0) (v := ?vvb0) ?hib0 (by kernel_rfl) ?h3b0 ?h4b0 ?h5b0 ?h6b0 (by assumption) ?h8b0
  case hib0 => (simp only [List.getElem?_toArray, List.getElem?_cons_succ, List.getElem?_cons_zero]; rfl)
  case h3b0 => kernel_rfl
  case h4b0 => kernel_rfl
  case h6b0 => (refine Or.inl ⟨by rfl, ?_⟩; intro w hSw; (try dsimp only at hSw); (go_simp <;> with_reducible rfl))
  case h5b0 => exact fun _ _ _ h => h
  try simp only [Act.put, List.setIfInBounds_toArray, List.set_cons_zero, List.set_cons_succ]
  refine wpAnyH_take (i := 1) (oi := ?oob1) (v := ?vvb1) ?hib1 (by kernel_rfl) ?h3b1 ?h4b1 ?h5b1 ?h6b1 (by assumption) ?h8b1
  case hib1 => (simp only [List.getElem?_toArray, List.getElem?_cons_succ, List.getElem?_cons_zero]; rfl)
  case h3b1 => kernel_rfl
  case h4b1 => kernel_rfl
  case h6b1 => (refine Or.inl ⟨by rfl, ?_⟩; intro w hSw; (try dsimp only at hSw); (go_simp <;> with_reducible rfl))
  case h5b1 => exact fun _ _ _ h => h
  try simp only [Act.put, List.setIfInBounds_toArray, List.set_cons_zero, List.set_cons_succ]
  refine wpAnyH_take (i := 2) (oi := ?oob2) (v := ?vvb2) ?hib2 (by kernel_rfl) ?h3b2 ?h4b2 ?h5b2 ?h6b2 (by assumption) ?h8b2
  case hib2 => (simp only [List.getElem?_toArray, List.getElem?_cons_succ, List.getElem?_cons_zero]; rfl)
  case h3b2 => kernel_rfl
  case h4b2 => kernel_rfl
  case h6b2 => (refine Or.inl ⟨by rfl, ?_⟩; intro w hSw; (try dsimp only at hSw); (go_simp <;> with_reducible rfl))
  case h5b2 => exact fun _ _ _ h => h
  try simp only [Act.put, List.setIfInBounds_toArray, List.set_cons_zero, List.set_cons_succ]
  refine wpAnyH_take (i := 3) (oi := ?oob3) (v := ?vvb3) ?hib3 (by kernel_rfl) ?h3b3 ?h4b3 ?h5b3 ?h6b3 (by assumption) ?h8b3
  case hib3 => (simp only [List.getElem?_toArray, List.getElem?_cons_succ, List.getElem?_cons_zero]; rfl)
  case h3b3 => kernel_rfl
  case h4b3 => kernel_rfl
  case h6b3 => (refine Or.inl ⟨by rfl, ?_⟩; intro w hSw; (try dsimp only at hSw); (go_simp <;> with_reducible rfl))
  case h5b3 => exact fun _ _ _ h => h
  try simp only [Act.put, List.setIfInBounds_toArray, List.set_cons_zero, List.set_cons_succ]
  refine wpAnyH_take (i := 4) (oi := ?oob4) (v := ?vvb4) ?hib4 (by kernel_rfl) ?h3b4 ?h4b4 ?h5b4 ?h6b4 (by assumption) ?h8b4
  case hib4 => (simp only [List.getElem?_toArray, List.getElem?_cons_succ, List.getElem?_cons_zero]; rfl)
  case h3b4 => kernel_rfl
  case h4b4 => kernel_rfl
  case h6b4 => (refine Or.inl ⟨by rfl, ?_⟩; intro w hSw; (try dsimp only at hSw); (go_simp <;> with_reducible rfl))
  case h5b4 => exact fun _ _ _ h => h
  try simp only [Act.put, List.setIfInBounds_toArray, List.set_cons_zero, List.set_cons_succ]
  refine wpAnyH_take (i := 5) (oi := ?oob5) (v := ?vvb5) ?hib5 (by kernel_rfl) ?h3b5 ?h4b5 ?h5b5 ?h6b5 (by assumption) ?h8b5
  case hib5 => (simp only [List.getElem?_toArray, List.getElem?_cons_succ, List.getElem?_cons_zero]; rfl)
  case h3b5 => kernel_rfl
  case h4b5 => kernel_rfl
  case h6b5 => (refine Or.inl ⟨by rfl, ?_⟩; intro w hSw; (try dsimp only at hSw); (go_simp <;> with_reducible rfl))
  case h5b5 => exact fun _ _ _ h => h
  try simp only [Act.put, List.setIfInBounds_toArray, List.set_cons_zero, List.set_cons_succ]
  refine wpAnyH_take (i := 7) (oi := ?oob7) (v := ?vvb7) ?hib7 (by kernel_rfl) ?h3b7 ?h4b7 ?h5b7 ?h6b7 (by assumption) ?h8b7
  case hib7 => (simp only [List.getElem?_toArray, List.getElem?_cons_succ, List.getElem?_cons_zero]; rfl)
  case h3b7 => kernel_rfl
  case h4b7 => kernel_rfl
  case h6b7 => (refine Or.inl ⟨by rfl, ?_⟩; intro w hSw; (try dsimp only at hSw); (go_simp <;> with_reducible rfl))
  case h5b7 => exact fun _ _ _ h => h
  try simp only [Act.put, List.setIfInBounds_toArray, List.set_cons_zero, List.set_cons_succ]
  refine wpAnyH_ready (rs := [6]) (by kernel_rfl) (by simp) (AllReadyH.cons (o := ?oob6) ?hib6 (fun K hK => ?hkb6) AllReadyH.nil)
  rotate_left
  case hib6 => (simp only [List.getElem?_toArray, List.getElem?_cons_succ, List.getElem?_cons_zero]; rfl)
  (rw [if_pos (by rfl)]; go_simp; refine (HF.out _ hHeld.2).mono ?_; rintro e wq ⟨v13, rfl, hO, hb⟩; obtain ⟨cb, cc, rfl, _⟩ := hO.ints; obtain ⟨gc, rfl, _⟩ := hO.form_ (by rw [HL.out]; omega); rw [HL.out] at hO ⊢; have kc := hO.cell (j := k) (by rw [HL.out]; exact hk); go_wp2_with fail; refine hK.out _ _ (kp6 hb hHeld) (fun hHeld => ?_); clear hK K)
  try simp only [Act.put, List.setIfInBounds_toArray, List.set_cons_zero, List.set_cons_succ]
  refine wpAnyH_take (i := 8) (oi := ?oob8) (v := ?vvb8) ?hib8 (by kernel_rfl) ?h3b8 ?h4b8 ?h5b8 ?h6b8 (by assumption) ?h8b8
  case hib8 => (simp only [List.getElem?_toArray, List.getElem?_cons_succ, List.getElem?_cons_zero]; rfl)
  case h3b8 => kernel_rfl
  case h4b8 => kernel_rfl
  case h6b8 => (refine Or.inl ⟨by rfl, ?_⟩; intro w hSw; (try dsimp only at hSw); (go_simp <;> with_reducible rfl))
  case h5b8 => exact fun _ _ _ h => h
  try simp only [Act.put, List.setIfInBounds_toArray, List.set_cons_zero, List.set_cons_succ]
  refine wpAnyH_ready (rs := [9]) (by kernel_rfl) (by simp) (AllReadyH.cons (o := ?oob9) ?hib9 (fun K hK => ?hkb9) AllReadyH.nil)
  rotate_left
  case hib9 => (simp only [List.getElem?_toArray, List.getElem?_cons_succ, List.getElem?_cons_zero]; rfl)
  (rw [if_pos (by rfl)]; go_simp; refine hK.out _ _ (hHeld) (fun hHeld => ?_); clear hK K)
  try simp only [Act.put, List.setIfInBounds_toArray, List.set_cons_zero, List.set_cons_succ]
  refine wpAnyH_ready (rs := [10]) (by kernel_rfl) (by simp) (AllReadyH.cons (o := ?oob10) ?hib10 (fun K hK => ?hkb10) AllReadyH.nil)
  rotate_left
  case hib10 => (simp only [List.getElem?_toArray, List.getElem?_cons_succ, List.getElem?_cons_zero]; rfl)
  (rw [if_pos (by rfl)]; go_simp; refine (CP _).mono ?_; rintro e wp ⟨rfl, hb2⟩; go_wp2_with fail; refine hK.out _ _ (kp6 hb2 hHeld) (fun hHeld => ?_); clear hK K)
  try simp only [Act.put, List.setIfInBounds_toArray, List.set_cons_zero, List.set_cons_succ]
  refine wpAnyH_take (i := 11) (oi := ?oob11) (v := ?vvb11) ?hib11 (by kernel_rfl) ?h3b11 ?h4b11 ?h5b11 ?h6b11 (by assumption) ?h8b11
  case hib11 => (simp only [List.getElem?_toArray, List.getElem?_cons_succ, List.getElem?_cons_zero]; rfl)
  case h3b11 => kernel_rfl
  case h4b11 => kernel_rfl
  case h6b11 => (refine Or.inl ⟨by rfl, ?_⟩; intro w hSw; (try dsimp only at hSw); (go_simp <;> with_reducible rfl))
  case h5b11 => exact fun _ _ _ h => h
  try simp only [Act.put, List.setIfInBounds_toArray, List.set_cons_zero, List.set_cons_succ]
  refine wpAnyH_done (by kernel_rfl) ?_ _
  have HE := Lib.hid hHeld.2
  clear hHeld hb hb2 hO kc CP
  go_wp2_with fail
  go_ret
  exact ⟨rfl, HE.out⟩
set_option maxHeartbeats 8000000 in
/-- spec.NeedFor -/
theorem sNeed (a : Option Addr) (cap : Nat) (ns : List Nd) (at_ am : Int) (w : World) (h : IsNd w a ns) (hn : ns.length ≤ 1048576) :
    Calls Try.prog 14 #[.slice a ns.length cap, .int .i64 at_, .int .i64 am] w fun e w' => e = .returned (.int .i64 (needV ns at_ am)) ∧ Below w.heap.size w w' := by
  have VN := svn a cap ns _ h hn
  have CI := fun W => sinRange at_ 0 ((ns.length : Int) - 1) W
  rw [inN_range] at CI
  have wn : IntKind.i64.wrap ((ns.length : Int) - 1) = (ns.length : Int) - 1 := by rw [IntKind.wrap_i64]; omega
  cases hv : vnB ns with
  | false =>
    rw [need_no (am := am) (.inl hv)]
    rw [hv] at VN
    clear hv h
    go_enter Try.func14, Try.ntmps14
    go_wp2_with fail
    refine VN.mono ?_
    rintro e w1 ⟨rfl, C⟩
    go_wp2_with fail
    go_ret
    exact ⟨rfl, C⟩
  | true =>
  rw [hv] at VN
  cases hi : inN ns.length at_ with
  | false =>
    rw [need_no (am := am) (.inr hi)]
    rw [hi] at CI
    clear hv hi h
    go_enter Try.func14, Try.ntmps14
    go_wp2_with fail
    refine VN.mono ?_
    rintro e w1 ⟨rfl, C⟩
    go_wp2_with fail
    refine (CI _).mono ?_
    rintro e w' ⟨rfl, rfl⟩
    go_wp2_with fail
    go_ret
    exact ⟨rfl, C⟩
  | true =>
    rw [hi] at CI
    obtain ⟨k, rfl, hk⟩ := inN_yes hi
    rw [need_yes hv hk]
    have HD := Lib.hid (fun (W : World) (hW : Below w.heap.size w W) (x : Nat) (hx : x ≤ 500) => sdelivered a cap ns k (x : Int) W (nd_below h hW) hv hk (by omega))
    clear hi hv h
    go_enter Try.func14, Try.ntmps14
    go_wp2_with fail
    refine VN.mono ?_
    rintro e w1 ⟨rfl, C⟩
    go_wp2_with fail
    refine (CI _).mono ?_
    rintro e w' ⟨rfl, rfl⟩
    clear VN CI
    go_wp2_with fail
    go_loopw [7] (fun i wr => ∃ x : Nat, x ≤ 501 ∧ i = .int .i64 x ∧ Hid (∀ j : Nat, j < x → (passF ns (j : Int)).getD k 0 < am) ∧ Below w.heap.size w wr) (fun i _ => 501 - (intOf i).toNat)
    case atStart => exact ⟨0, Nat.zero_le _, rfl, fun j hj => absurd hj (Nat.not_lt_zero _), C⟩
    case round =>
      clear C
      obtain ⟨x, hx, rfl, HR, hB⟩ := hrel
      by_cases hlt : x ≤ 500
      · have CD := HD.out wr hB x hlt
        have e1 : decide ((x : Int) ≤ 500) = true := decide_eq_true (by omega)
        have e2 : decide (x ≤ 500) = true := decide_eq_true hlt
        have hat := fun e => need_at (ns := ns) (k := k) (am := am) 501 0 x (Nat.zero_le _) (by omega) (fun j _ hj => HR.out j hj) e
        have hno : (passF ns (x : Int)).getD k 0 < am → ∀ j : Nat, j < x + 1 → (passF ns (j : Int)).getD k 0 < am := fun e j hj => by
          by_cases c : j = x
          · subst c; exact e
          · exact HR.out j (by omega)
        have HB := Lib.hid hB
        have HAT := Lib.hid hat
        have HNO := Lib.hid hno
        clear hB hat hno
        generalize (passF ns (x : Int)).getD k 0 = p at CD HAT HNO
        go_wp2_with fail
        refine CD.mono ?_
        rintro e w3 ⟨rfl, hb⟩
        have HB3 := Lib.hid (bel_tr HB.out hb)
        clear CD hb
        by_cases hp : am ≤ p
        · have HV := Lib.hid (HAT.out hp)
          have e3 : decide (am ≤ p) = true := decide_eq_true hp
          clear hp HNO
          go_wp2_with fail
          go_ret
          exact ⟨ret_int HV.out.symm, HB3.out⟩
        · have HV := Lib.hid (HNO.out (by omega))
          have e3 : decide (am ≤ p) = false := decide_eq_false hp
          clear HAT
          go_wp2_with fail
          go_roundw
          case rel => exact ⟨x + 1, by omega, by go_num, HV.out, HB3.out⟩
          case measure => simp [intOf]; omega
      · have e1 : decide ((x : Int) ≤ 500) = false := decide_eq_false (by omega)
        have e2 : decide (x ≤ 500) = false := decide_eq_false hlt
        have HV : Hid (needF ns k am 501 0 = -1) := need_none 501 0 (fun j _ hj => HR.out j (by omega))
        have HB := Lib.hid hB
        clear hB HR
        go_wp2_with fail
        go_ret
        exact ⟨ret_int HV.out.symm, HB.out⟩
end Go.Proofs.Ytlpmeljneogpiab
