/- For every input the law answers true, and its argument reads afterwards as before: the first custom decides. No condition. -/
import Derived.Test.YtigapnbpgbfbhabRows
import Derived.Test.YtigapnbpgbfbhabDrawRu
import Derived.Test.YtigapnbpgbfbhabRulI
import Derived.Test.YtigapnbpgbfbhabRulS
import Derived.Test.YtigapnbpgbfbhabRulQ
import Derived.Test.YtigapnbpgbfbhabLawIn
import Derived.WalkKit
import Derived.Deep.RegionHeld3
import Derived.Deep.RegionWith
import Derived.Deep.QuietTactic
import Derived.BigQuiet
import Derived.RegionTactic
import Derived.ChangeAlike
import Derived.BigRegion
import Derived.ProofKit
import Derived.OpenShut
import Derived.ShutString
import Derived.ChangeOld
import Derived.Below
import Derived.Lib.SmallJoins
namespace Go.Proofs.Ytigapnbpgbfbhab.fnFirstRule
open Go.ChangeShapes Go.WideShapes Go.ChangeAt Go.RowKit Go.Joins
open Go.ChangeMaps (open_string shut_string)
set_option linter.unusedVariables false
set_option linter.unusedSimpArgs false

theorem own : ownKnob Try.prog.godebug = none := by kernel_rfl
theorem laidOut : laidOutB Try.prog = true := by kernel_rfl

set_option maxRecDepth 100000 in
set_option maxHeartbeats 8000000 in
theorem walk (a0 : Option Addr) (len0 cap0 : Nat) (z0 : List Int) (w : World) (w0 : IsRow .u8 w a0 len0 cap0 z0) :
    Calls Try.prog 10 #[.slice a0 len0 cap0] w fun e w' => e = .returned (.bool true) ∧ Below w.heap.size w w' := by
  by_cases big : (1048576 : Int) < (len0 : Int)
  · go_enter Try.func10, Try.ntmps10
    go_wp2
    go_ret
    exact ⟨rfl, Below.refl _ _⟩
  go_enter Try.func10, Try.ntmps10
  go_wp2_with fail
  refine (drawFR a0 len0 cap0 z0 _ w0).mono ?_
  rintro e u1 ⟨b1, cp, xs, hh, u, rfl, l6, hlc, IR, B⟩
  clear w0 big
  have n1 : xs.length ≤ 1048576 := by omega
  obtain ⟨V, hV⟩ : ∃ V, fruV xs hh u = V := ⟨_, rfl⟩
  have HI : Hid (∀  (W : World), (h1 : IsRu W b1 xs) → Calls Try.prog 27 #[.slice b1 xs.length cp, .int .i64 hh, .int .i64 u] W (fun e w' => e = .returned (.int .i64 V) ∧ Below W.heap.size W w')) := fun  W h1 => by have h := iFR b1 cp xs hh u W h1 n1; rw [hV] at h; exact h
  have HS : Hid (∀  (W : World), (h1 : IsRu W b1 xs) → Calls Try.prog 26 #[.slice b1 xs.length cp, .int .i64 hh, .int .i64 u] W (fun e w' => e = .returned (.int .i64 V) ∧ Below W.heap.size W w')) := fun  W h1 => by have h := sFR b1 cp xs hh u W h1 n1; rw [hV] at h; exact h
  by_cases hz : V < 0
  · have e0 : decide (V < 0) = true := decide_eq_true hz
    clear hV hz
    go_wp2_with fail
    refine (HI.out _ IR).mono ?_
    rintro e u2_ ⟨rfl, C_⟩
    replace B := bel_tr B C_
    replace IR := ru_below IR C_
    clear C_
    go_wp2_with fail
    refine (HS.out _ IR).mono ?_
    rintro e u3_ ⟨rfl, C_⟩
    replace B := bel_tr B C_
    replace IR := ru_below IR C_
    clear C_
    go_wp2_with fail
    refine (HS.out _ IR).mono ?_
    rintro e u4_ ⟨rfl, C_⟩
    replace B := bel_tr B C_
    replace IR := ru_below IR C_
    clear C_
    go_wp2_with fail
    go_ret
    exact ⟨rfl, B⟩
  have e0 : decide (V < 0) = false := decide_eq_false hz
  obtain ⟨y, hy, hyv, hf⟩ : ∃ y : Nat, y < xs.length ∧ V = (y : Int) ∧ vrB xs = true ∧ frF xs hh u = (y : Int) := by
    rcases fru_cases xs hh u with h | ⟨h1, y, h2, h3, h4⟩
    · rw [hV] at h; omega
    · exact ⟨y, h2, by rw [← hV]; exact h3, h1, h4⟩
  subst hyv
  obtain ⟨hv, hf⟩ := hf
  have hvd := vd_at hv hf
  have HF : Hid (∀ j, j ≤ y → fitB (xs.getD j ru0) hh u = decide (j = y)) := fun j hj => by
    obtain ⟨h1, h2, h3⟩ := fr_is hf
    by_cases e : j = y
    · rw [decide_eq_true e, e]; exact h2
    · rw [decide_eq_false e]; exact h3 j (by omega)
  have HD : Hid (∀  (W : World), (h1 : IsRu W b1 xs) → Calls Try.prog 29 #[.slice b1 xs.length cp, .int .i64 hh, .int .i64 u] W (fun e w' => e = .returned (.int .i64 (xs.getD y ru0).2.2.2.2) ∧ Below W.heap.size W w')) := fun  W h1 => by have h := iVd b1 cp xs hh u W h1 n1; rw [hvd] at h; exact h
  clear hV hz hv hf hvd
  go_wp2_with fail
  refine (HI.out _ IR).mono ?_
  rintro e u2_ ⟨rfl, C_⟩
  replace B := bel_tr B C_
  replace IR := ru_below IR C_
  clear C_
  go_wp2_with fail
  refine (HS.out _ IR).mono ?_
  rintro e u3_ ⟨rfl, C_⟩
  replace B := bel_tr B C_
  replace IR := ru_below IR C_
  clear C_
  go_wp2_with fail
  clear HI HS
  have HIR := Lib.hid IR
  have HB0 := Lib.hid B
  clear B IR
  go_loopw [7] (fun i wr => ∃ k : Nat, k ≤ y + 1 ∧ i = .int .i64 k ∧ Below u3_.heap.size u3_ wr) (fun i _ => y + 1 - (intOf i).toNat)
  case atStart => exact ⟨0, Nat.zero_le _, rfl, Below.refl _ _⟩
  case round =>
    obtain ⟨k, hk, rfl, hB⟩ := hrel
    by_cases hle : k ≤ y
    · have hlt : k < xs.length := by omega
      have IR2 := ru_below HIR.out hB
      rcases IR2 with hnil | ⟨g, oo, rfl, hc⟩
      · rw [hnil] at hlt; exact absurd hlt (Nat.not_lt_zero _)
      obtain ⟨c0, c1, c2, c3, c4⟩ := hc k hlt
      have hfk := HF.out k hle
      have HB := Lib.hid hB
      have k0 : (0 : Int) ≤ (k : Int) := by omega
      have kx : (k : Int) < (xs.length : Int) := by omega
      have ky : (k : Int) ≤ (y : Int) := by omega
      have ed1 : decide ((k : Int) ≤ (y : Int)) = true := decide_eq_true ky
      have eq1 : ((k : Int) == (y : Int)) = decide (k = y) := by by_cases e : k = y <;> simp [e]; omega
      have eq2 : (k == y) = decide (k = y) := by by_cases e : k = y <;> simp [e]
      generalize decide (k = y) = t at hfk eq1 eq2
      clear hc hB
      generalize xs.getD k ru0 = r at c0 c1 c2 c3 c4 hfk
      obtain ⟨x0, x1, x2, x3, x4⟩ := r
      dsimp only at c0 c1 c2 c3 c4
      have hfe : fitB (x0, x1, x2, x3, x4) hh u = ((decide (x0 ≤ hh) && decide (hh ≤ x1)) && (decide (x2 ≤ u) && decide (u ≤ x3))) := rfl
      rw [hfe] at hfk
      clear hfe
      have HBB := Lib.hid (show Below u3_.heap.size u3_ _ from bel_tr HB.out (Below.refl wr.heap.size wr))
      obtain ⟨s0, hs0⟩ : ∃ s, decide (x0 ≤ hh) = s := ⟨_, rfl⟩
      obtain ⟨s1, hs1⟩ : ∃ s, decide (hh ≤ x1) = s := ⟨_, rfl⟩
      obtain ⟨s2, hs2⟩ : ∃ s, decide (x2 ≤ u) = s := ⟨_, rfl⟩
      obtain ⟨s3, hs3⟩ : ∃ s, decide (u ≤ x3) = s := ⟨_, rfl⟩
      rw [hs0, hs1, hs2, hs3] at hfk
      subst hfk
      clear HBB
      go_wp2_with fail
      all_goals exact ⟨⟨k + 1, by omega, by go_num, HB.out.alloc HB.out.size _⟩, by simp [intOf]; omega⟩
    · obtain rfl : k = y + 1 := by omega
      have IR2 := ru_below HIR.out hB
      have HB2 := Lib.hid (bel_tr HB0.out hB)
      rcases IR2 with hnil | ⟨g, oo, rfl, hc⟩
      · rw [hnil] at hy; exact absurd hy (Nat.not_lt_zero _)
      obtain ⟨c0, c1, c2, c3, c4⟩ := hc y hy
      have ed1 : decide (((y + 1 : Nat) : Int) ≤ (y : Int)) = false := decide_eq_false (by omega)
      have ed2 : decide ((y : Int) + 1 ≤ (y : Int)) = false := decide_eq_false (by omega)
      have y0 : (0 : Int) ≤ (y : Int) := by omega
      have yx : (y : Int) < (xs.length : Int) := by omega
      have HRU := Lib.hid (show IsRu wr (some ⟨g, oo, none⟩) xs from .inr ⟨g, oo, rfl, hc⟩)
      clear hc hB c0 c1 c2 c3
      generalize (xs.getD y ru0).2.2.2.2 = z4 at c4 HD
      go_wp2_with fail
      have HMK1 := Lib.hid (fun (W : World) (hW : Below wr.heap.size wr W) => (⟨(hW.cell (p := ⟨g, oo + y * 5 + 4, none⟩) (World.block_lt_of_cell? _ _ c4)).trans c4, hW⟩ : (W.cell? ⟨g, oo + y * 5 + 4, none⟩ = some (.int .i64 z4)) ∧ Below wr.heap.size wr W))
      refine wp_region_held_drew (S := (fun w' => (w'.cell? ⟨g, oo + y * 5 + 4, none⟩ = some (.int .i64 z4)) ∧ Below wr.heap.size wr w')) (by kernel_rfl) ?_ (fun hHeld => ?_)
      · exact ⟨c4, (Below.refl _ _).drew⟩
      refine wpAnyH_take (i := 0) (oi := ?ooa2_) (v := ?vva2_) ?hia2_ (by kernel_rfl) ?h3a2_ ?h4a2_ ?h5a2_ ?h6a2_ (by assumption) ?h8a2_
      case hia2_ => (simp only [List.getElem?_toArray, List.getElem?_cons_succ, List.getElem?_cons_zero]; rfl)
      case h3a2_ => kernel_rfl
      case h4a2_ => kernel_rfl
      case h6a2_ => (refine Or.inl ⟨by rfl, ?_⟩; intro w hSw; (try dsimp only at hSw); (go_simp <;> with_reducible rfl))
      case h5a2_ => exact fun _ _ _ h => h
      try simp only [Act.put, List.setIfInBounds_toArray, List.set_cons_zero, List.set_cons_succ]
      refine wpAnyH_take (i := 1) (oi := ?ooa3_) (v := ?vva3_) ?hia3_ (by kernel_rfl) ?h3a3_ ?h4a3_ ?h5a3_ ?h6a3_ (by assumption) ?h8a3_
      case hia3_ => (simp only [List.getElem?_toArray, List.getElem?_cons_succ, List.getElem?_cons_zero]; rfl)
      case h3a3_ => kernel_rfl
      case h4a3_ => kernel_rfl
      case h6a3_ => (refine Or.inl ⟨by rfl, ?_⟩; intro w hSw; (try dsimp only at hSw); (go_simp <;> with_reducible rfl))
      case h5a3_ => exact fun _ _ _ h => h
      try simp only [Act.put, List.setIfInBounds_toArray, List.set_cons_zero, List.set_cons_succ]
      refine wpAnyH_take (i := 2) (oi := ?ooa4_) (v := ?vva4_) ?hia4_ (by kernel_rfl) ?h3a4_ ?h4a4_ ?h5a4_ ?h6a4_ (by assumption) ?h8a4_
      case hia4_ => (simp only [List.getElem?_toArray, List.getElem?_cons_succ, List.getElem?_cons_zero]; rfl)
      case h3a4_ => kernel_rfl
      case h4a4_ => kernel_rfl
      case h6a4_ => (refine Or.inl ⟨by rfl, ?_⟩; intro w hSw; (try dsimp only at hSw); (go_simp <;> with_reducible rfl))
      case h5a4_ => exact fun _ _ _ h => h
      try simp only [Act.put, List.setIfInBounds_toArray, List.set_cons_zero, List.set_cons_succ]
      refine wpAnyH_take (i := 4) (oi := ?ooa5_) (v := ?vva5_) ?hia5_ (by kernel_rfl) ?h3a5_ ?h4a5_ ?h5a5_ ?h6a5_ (by assumption) ?h8a5_
      case hia5_ => (simp only [List.getElem?_toArray, List.getElem?_cons_succ, List.getElem?_cons_zero]; rfl)
      case h3a5_ => kernel_rfl
      case h4a5_ => kernel_rfl
      case h6a5_ => (refine Or.inl ⟨by rfl, ?_⟩; intro w hSw; (try dsimp only at hSw); (go_simp <;> with_reducible rfl))
      case h5a5_ => exact fun _ _ _ h => h
      try simp only [Act.put, List.setIfInBounds_toArray, List.set_cons_zero, List.set_cons_succ]
      refine wpAnyH_take (i := 5) (oi := ?ooa6_) (v := ?vva6_) ?hia6_ (by kernel_rfl) ?h3a6_ ?h4a6_ ?h5a6_ ?h6a6_ (by assumption) ?h8a6_
      case hia6_ => (simp only [List.getElem?_toArray, List.getElem?_cons_succ, List.getElem?_cons_zero]; rfl)
      case h3a6_ => kernel_rfl
      case h4a6_ => kernel_rfl
      case h6a6_ => (refine Or.inl ⟨by rfl, ?_⟩; intro w hSw; (try dsimp only at hSw); (go_simp <;> with_reducible rfl))
      case h5a6_ => exact fun _ _ _ h => h
      try simp only [Act.put, List.setIfInBounds_toArray, List.set_cons_zero, List.set_cons_succ]
      refine wpAnyH_take (i := 6) (oi := ?ooa7_) (v := ?vva7_) ?hia7_ (by kernel_rfl) ?h3a7_ ?h4a7_ ?h5a7_ ?h6a7_ (by assumption) ?h8a7_
      case hia7_ => (simp only [List.getElem?_toArray, List.getElem?_cons_succ, List.getElem?_cons_zero]; rfl)
      case h3a7_ => kernel_rfl
      case h4a7_ => kernel_rfl
      case h6a7_ => (refine Or.inl ⟨by rfl, ?_⟩; intro w hSw; (try dsimp only at hSw); (go_simp <;> with_reducible rfl))
      case h5a7_ => exact fun _ _ _ h => h
      try simp only [Act.put, List.setIfInBounds_toArray, List.set_cons_zero, List.set_cons_succ]
      refine wpAnyH_take (i := 7) (oi := ?ooa8_) (v := ?vva8_) ?hia8_ (by kernel_rfl) ?h3a8_ ?h4a8_ ?h5a8_ ?h6a8_ (by assumption) ?h8a8_
      case hia8_ => (simp only [List.getElem?_toArray, List.getElem?_cons_succ, List.getElem?_cons_zero]; rfl)
      case h3a8_ => kernel_rfl
      case h4a8_ => kernel_rfl
      case h6a8_ => (refine Or.inl ⟨by rfl, ?_⟩; intro w hSw; (try dsimp only at hSw); (go_simp <;> with_reducible rfl))
      case h5a8_ => exact fun _ _ _ h => h
      try simp only [Act.put, List.setIfInBounds_toArray, List.set_cons_zero, List.set_cons_succ]
      refine wpAnyH_take (i := 8) (oi := ?ooa9_) (v := ?vva9_) ?hia9_ (by kernel_rfl) ?h3a9_ ?h4a9_ ?h5a9_ ?h6a9_ (by assumption) ?h8a9_
      case hia9_ => (simp only [List.getElem?_toArray, List.getElem?_cons_succ, List.getElem?_cons_zero]; rfl)
      case h3a9_ => kernel_rfl
      case h4a9_ => kernel_rfl
      case h6a9_ => (refine Or.inl ⟨by rfl, ?_⟩; intro w hSw; (try dsimp only at hSw); (go_simp <;> with_reducible rfl))
      case h5a9_ => exact fun _ _ _ h => h
      try simp only [Act.put, List.setIfInBounds_toArray, List.set_cons_zero, List.set_cons_succ]
      refine wpAnyH_ready (rs := [3]) (by kernel_rfl) (by simp) (AllReadyH.cons (o := ?ooa10_q0) ?hia10_q0 (fun K hK => ?hka10_q0) AllReadyH.nil)
      case hia10_q0 => (simp only [List.getElem?_toArray, List.getElem?_cons_succ, List.getElem?_cons_zero]; rfl)
      case hka10_q0 =>
        (rw [if_pos (by rfl)]; go_simp; refine (HD.out _ (ru_below HRU.out hHeld.2)).mono ?_; rintro e q3 ⟨rfl, hb⟩; go_wp2_with fail; refine hK.out _ _ (HMK1.out _ (bel_tr hHeld.2 hb)) (fun hHeld => ?_); clear hK K)
        try simp only [Act.put, List.setIfInBounds_toArray, List.set_cons_zero, List.set_cons_succ]
        refine wpAnyH_take (i := 9) (oi := ?ooa11_) (v := ?vva11_) ?hia11_ (by kernel_rfl) ?h3a11_ ?h4a11_ ?h5a11_ ?h6a11_ (by assumption) ?h8a11_
        case hia11_ => (simp only [List.getElem?_toArray, List.getElem?_cons_succ, List.getElem?_cons_zero]; rfl)
        case h3a11_ => kernel_rfl
        case h4a11_ => kernel_rfl
        case h6a11_ => (refine Or.inl ⟨by rfl, ?_⟩; intro w hSw; (try dsimp only at hSw); (go_simp <;> with_reducible rfl))
        case h5a11_ => exact fun _ _ _ h => h
        try simp only [Act.put, List.setIfInBounds_toArray, List.set_cons_zero, List.set_cons_succ]
        refine wpAnyH_take (i := 10) (oi := ?ooa12_) (v := ?vva12_) ?hia12_ (by kernel_rfl) ?h3a12_ ?h4a12_ ?h5a12_ ?h6a12_ (by assumption) ?h8a12_
        case hia12_ => (simp only [List.getElem?_toArray, List.getElem?_cons_succ, List.getElem?_cons_zero]; rfl)
        case h3a12_ => kernel_rfl
        case h4a12_ => kernel_rfl
        case h6a12_ => (refine Or.inl ⟨by rfl, ?_⟩; intro w hSw; (try dsimp only at hSw); (go_simp <;> with_reducible rfl))
        case h5a12_ => exact fun _ _ _ h => h
        try simp only [Act.put, List.setIfInBounds_toArray, List.set_cons_zero, List.set_cons_succ]
        refine wpAnyH_done (by kernel_rfl) ?_ _
        clear HMK1
        have B2 := bel_tr HB2.out hHeld.2
        clear hHeld
        go_wp2_with fail
        go_ret
        exact ⟨rfl, B2⟩


set_option maxRecDepth 100000 in
theorem lifted (os : Os) (started : os.Started) (H : Type) (enc : TypeId × Value → H) :
    ReturnsInHanded {} Try.checked os 10 .any (Rows.fnFirstRuleSpec.pre6 enc Try.prog Try.f10 Rows.fnFirstRuleRow.domain false) (Rows.fnFirstRuleSpec.post enc Try.prog Try.f10 false true false false) := by
  refine returnsInHanded_of_change (C := Try.checked) own started (by kernel_rfl) Try.func10
    (ChangeSpec.witness6 (enc := enc) (C := Try.checked) false ⟨#[], #[.slice none 0 0], []⟩ 8 (by kernel_rfl) (by kernel_rfl) (by kernel_rfl) (by kernel_rfl)) ?_
  intro W base args ds gs before hval0 hW hcnd _
  have hval : ∀ (j : Nat) t v, Try.f10.params[j]? = some t → args[j]? = some v → Value.okWide Try.prog W .any base t v := hval0
  have hW' := hW
  obtain ⟨p, q, hA0, hV, rfl, hfz, hnd⟩ := hW
  have hA : DataW.TrodAll enc Try.prog W 0 (fun _ => true) true Try.f10.params.toList args.toList ds p := hA0
  rw [Try.params10] at hA hval
  obtain ⟨v0, vs0, e0, es0, p0, q0, hargs, rfl, rfl, h0, r0⟩ := trodAll_cons hA
  obtain ⟨rfl, rfl, rfl⟩ := trodAll_nil r0
  obtain rfl : args = #[v0] := by cases args; simp_all
  obtain ⟨rfl, rfl⟩ := trodVars_none hV
  have k0 := h0
  have lt0 : ∀ x ∈ p0, x.block < W.heap.size := by obtain ⟨m, hm⟩ := k0; exact DataW.trod_lt m _ _ _ hm
  obtain ⟨a0, len0, cap0, rfl⟩ := okWide_slice Try.underlying22 (hval 0 22 v0 rfl rfl)
  obtain ⟨z0, w0⟩ : ∃ zs, IsRow .u8 W a0 len0 cap0 zs := by
    obtain ⟨fuel, hf⟩ := h0
    rcases open_ints Try.underlying22 Try.underlying5 (by kernel_rfl) hf with ⟨hcs, _⟩ | ⟨x, l, c, zs, hcs, _, hl, hm, hz, _, hcell, hwz⟩
    · simp [Value.cells] at hcs
      obtain ⟨rfl, rfl, rfl⟩ := hcs
      exact ⟨[], .inl ⟨rfl, rfl, rfl, rfl⟩⟩
    · simp [Value.cells] at hcs
      obtain ⟨rfl, rfl, rfl⟩ := hcs
      exact ⟨zs, .inr ⟨_, rfl, hl, hm, by simpa using hz, hcell, hwz⟩⟩
  clear hA0 hval0
  refine (walk a0 len0 cap0 z0 W w0).mono fun e W' ⟨he, bel⟩ => ?_
  subst he
  exact ⟨_, rfl, _, _, _, [], _, [], hW', trodAll_mk1 (shut_bool Try.underlying4 _), (trodAll_cons_mk (Below.trod laidOut (by kernel_rfl) (of_decide_eq_true (by kernel_rfl)) k0 bel lt0) trodAll_mk0), rfl, bel.frame _, fun h => by cases h⟩

theorem over : Rows.fnFirstRuleRow.holds Try.pinned (OpenSpec.ofChange Rows.fnFirstRuleSpec) :=
  OpenClaim.holds_of_wide 10 Try.f10 rfl rfl rfl rfl rfl rfl rfl ⟨rfl, rfl, rfl, rfl, rfl⟩ rfl rfl rfl rfl rfl (by kernel_rfl) Try.func10 (by kernel_rfl)
    (of_decide_eq_true (by kernel_rfl)) (by unfold Func.isWrapper; first | (rw [if_pos (by decide +kernel)]; kernel_rfl) | (rw [if_neg (by decide +kernel)]; exact ⟨rfl, rfl⟩))
    (fun os started H enc _ => lifted os started H enc)

end Go.Proofs.Ytigapnbpgbfbhab.fnFirstRule
namespace Go.Proofs.Ytigapnbpgbfbhab
/-- the statement -/
theorem fnFirstRule_holds : Rows.FnFirstRuleSaid := fnFirstRule.over
end Go.Proofs.Ytigapnbpgbfbhab
