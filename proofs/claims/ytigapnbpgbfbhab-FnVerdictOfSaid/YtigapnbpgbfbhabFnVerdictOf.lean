/- For every input the law answers true, and its argument reads afterwards as before: other customs do not matter. No condition. -/
import Derived.Test.YtigapnbpgbfbhabRows
import Derived.Test.YtigapnbpgbfbhabDrawRu
import Derived.Test.YtigapnbpgbfbhabRulI
import Derived.Test.YtigapnbpgbfbhabRulS
import Derived.Test.YtigapnbpgbfbhabRulQ
import Derived.Test.YtigapnbpgbfbhabLawIn
import Derived.Test.YtigapnbpgbfbhabCutRu
import Derived.WalkKit
import Derived.Deep.RegionHeld3
import Derived.Deep.RegionWith
import Derived.Deep.QuietTactic
import Derived.BigQuiet
import Derived.RegionTactic
import Derived.ChangeAlike
import Derived.BigRegion
import Derived.ProofKit
import Derived.OpenShut
import Derived.ShutString
import Derived.ChangeOld
import Derived.Below
import Derived.Lib.SmallJoins
namespace Go.Proofs.Ytigapnbpgbfbhab.fnVerdictOf
open Go.ChangeShapes Go.WideShapes Go.ChangeAt Go.RowKit Go.Joins
open Go.ChangeMaps (open_string shut_string)
set_option linter.unusedVariables false
set_option linter.unusedSimpArgs false

theorem own : ownKnob Try.prog.godebug = none := by kernel_rfl
theorem laidOut : laidOutB Try.prog = true := by kernel_rfl

set_option maxRecDepth 100000 in
set_option maxHeartbeats 8000000 in
theorem walk (a0 : Option Addr) (len0 cap0 : Nat) (z0 : List Int) (w : World) (w0 : IsRow .u8 w a0 len0 cap0 z0) :
    Calls Try.prog 11 #[.slice a0 len0 cap0] w fun e w' => e = .returned (.bool true) ∧ Below w.heap.size w w' := by
  by_cases big : (1048576 : Int) < (len0 : Int)
  · go_enter Try.func11, Try.ntmps11
    go_wp2
    go_ret
    exact ⟨rfl, Below.refl _ _⟩
  go_enter Try.func11, Try.ntmps11
  go_wp2_with fail
  refine (drawVd a0 len0 cap0 z0 _ w0).mono ?_
  rintro e u1 ⟨b1, cp, xs, hh, u, rfl, l6, hlc, IR, B⟩
  clear w0 big
  have n1 : xs.length ≤ 1048576 := by omega
  obtain ⟨V, hV⟩ : ∃ V, vdV xs hh u = V := ⟨_, rfl⟩
  have HI : Hid (∀  (W : World), (h1 : IsRu W b1 xs) → Calls Try.prog 29 #[.slice b1 xs.length cp, .int .i64 hh, .int .i64 u] W (fun e w' => e = .returned (.int .i64 V) ∧ Below W.heap.size W w')) := fun  W h1 => by have h := iVd b1 cp xs hh u W h1 n1; rw [hV] at h; exact h
  have HS : Hid (∀  (W : World), (h1 : IsRu W b1 xs) → Calls Try.prog 28 #[.slice b1 xs.length cp, .int .i64 hh, .int .i64 u] W (fun e w' => e = .returned (.int .i64 V) ∧ Below W.heap.size W w')) := fun  W h1 => by have h := sVd b1 cp xs hh u W h1 n1; rw [hV] at h; exact h
  by_cases hz : V < 0
  · have e0 : decide (V < 0) = true := decide_eq_true hz
    clear hV hz
    go_wp2_with fail
    refine (HI.out _ IR).mono ?_
    rintro e u2_ ⟨rfl, C_⟩
    replace B := bel_tr B C_
    replace IR := ru_below IR C_
    clear C_
    go_wp2_with fail
    refine (HS.out _ IR).mono ?_
    rintro e u3_ ⟨rfl, C_⟩
    replace B := bel_tr B C_
    replace IR := ru_below IR C_
    clear C_
    go_wp2_with fail
    refine (HS.out _ IR).mono ?_
    rintro e u4_ ⟨rfl, C_⟩
    replace B := bel_tr B C_
    replace IR := ru_below IR C_
    clear C_
    go_wp2_with fail
    go_ret
    exact ⟨rfl, B⟩
  have e0 : decide (V < 0) = false := decide_eq_false hz
  obtain ⟨y, hy, hyv, hv, hf⟩ : ∃ y : Nat, y < xs.length ∧ fruV xs hh u = (y : Int) ∧ vrB xs = true ∧ frF xs hh u = (y : Int) := by
    rcases fru_cases xs hh u with h | ⟨h1, y, h2, h3, h4⟩
    · rw [vd_none h] at hV; omega
    · exact ⟨y, h2, h3, h1, h4⟩
  have hvd := vd_at hv hf
  rw [hV] at hvd
  have HRM : Hid (∀ k, k < xs.length → k ≠ y → vdV (xs.take k ++ xs.drop (k + 1)) hh u = V) := fun k hk hne => by
    rw [hvd]; exact rmv_vd hv hf hk hne
  have HON : Hid (vdV [xs.getD y ru0] hh u = V) := by
    show _ = V
    rw [hvd]; exact one_vd hv hf
  have HF : Hid (∀  (W : World), (h1 : IsRu W b1 xs) → Calls Try.prog 27 #[.slice b1 xs.length cp, .int .i64 hh, .int .i64 u] W (fun e w' => e = .returned (.int .i64 ((y : Nat) : Int)) ∧ Below W.heap.size W w')) := fun  W h1 => by have h := iFR b1 cp xs hh u W h1 n1; rw [hyv] at h; exact h
  clear hV hz hv hf hvd hyv
  obtain ⟨i0, hi, hz0, hz1, hz2⟩ := info_parts infoRu
  go_wp2_with fail
  refine (HI.out _ IR).mono ?_
  rintro e u2_ ⟨rfl, C_⟩
  replace B := bel_tr B C_
  replace IR := ru_below IR C_
  clear C_
  go_wp2_with fail
  refine (HS.out _ IR).mono ?_
  rintro e u3_ ⟨rfl, C_⟩
  replace B := bel_tr B C_
  replace IR := ru_below IR C_
  clear C_
  go_wp2_with fail
  refine (HF.out _ IR).mono ?_
  rintro e u4_ ⟨rfl, C_⟩
  replace B := bel_tr B C_
  replace IR := ru_below IR C_
  clear C_
  go_wp2_with fail
  clear HI HS HF
  have HIR := Lib.hid IR
  have HB0 := Lib.hid B
  clear B IR
  go_loopw [8] (fun i wr => ∃ k : Nat, k ≤ xs.length ∧ i = .int .i64 k ∧ Below u4_.heap.size u4_ wr) (fun i _ => xs.length - (intOf i).toNat)
  case atStart => exact ⟨0, Nat.zero_le _, rfl, Below.refl _ _⟩
  case round =>
    obtain ⟨k, hk, rfl, hB⟩ := hrel
    by_cases hlt : k < xs.length
    · have IR2 := ru_below HIR.out hB
      rcases IR2 with hnil | ⟨g, oo, rfl, hc⟩
      · rw [hnil] at hlt; exact absurd hlt (Nat.not_lt_zero _)
      have HRU := Lib.hid (show IsRu wr (some ⟨g, oo, none⟩) xs from .inr ⟨g, oo, rfl, hc⟩)
      have HB := Lib.hid hB
      clear hc hB
      have k0 : (0 : Int) ≤ (k : Int) := by omega
      have kx : (k : Int) < (xs.length : Int) := by omega
      have k1 : (k : Int) ≤ (xs.length : Int) := by omega
      have k2 : (k : Int) + 1 ≤ (xs.length : Int) := by omega
      have k3 : (0 : Int) ≤ (k : Int) + 1 := by omega
      have t1 : ((k : Int) + 1).toNat = k + 1 := by omega
      have kc : (k : Int) ≤ (cp : Int) := by omega
      have wk : IntKind.i64.wrap ((k : Int) + 1) = (k : Int) + 1 := by rw [IntKind.wrap_i64]; omega
      by_cases hky : k = y
      · have d1 : ((k : Int) != (y : Int)) = false := by rw [bne_eq_false_iff_eq]; omega
        have d2 : (k != y) = false := by rw [bne_eq_false_iff_eq]; omega
        clear hky
        go_wp2_with fail
        refine wp_region_held_drew (S := (fun w' => True ∧ Below wr.heap.size wr w')) (by kernel_rfl) ?_ (fun hHeld => ?_)
        · exact ⟨trivial, (Below.refl _ _).drew⟩
        refine wpAnyH_take (i := 0) (oi := ?oob0) (v := ?vvb0) ?hib0 (by kernel_rfl) ?h3b0 ?h4b0 ?h5b0 ?h6b0 (by assumption) ?h8b0
        case hib0 => (simp only [List.getElem?_toArray, List.getElem?_cons_succ, List.getElem?_cons_zero]; rfl)
        case h3b0 => kernel_rfl
        case h4b0 => kernel_rfl
        case h6b0 => (refine Or.inl ⟨by rfl, ?_⟩; intro w hSw; (try dsimp only at hSw); (go_simp <;> with_reducible rfl))
        case h5b0 => exact fun _ _ _ h => h
        try simp only [Act.put, List.setIfInBounds_toArray, List.set_cons_zero, List.set_cons_succ]
        refine wpAnyH_take (i := 1) (oi := ?oob1) (v := ?vvb1) ?hib1 (by kernel_rfl) ?h3b1 ?h4b1 ?h5b1 ?h6b1 (by assumption) ?h8b1
        case hib1 => (simp only [List.getElem?_toArray, List.getElem?_cons_succ, List.getElem?_cons_zero]; rfl)
        case h3b1 => kernel_rfl
        case h4b1 => kernel_rfl
        case h6b1 => (refine Or.inl ⟨by rfl, ?_⟩; intro w hSw; (try dsimp only at hSw); (go_simp <;> with_reducible rfl))
        case h5b1 => exact fun _ _ _ h => h
        try simp only [Act.put, List.setIfInBounds_toArray, List.set_cons_zero, List.set_cons_succ]
        refine wpAnyH_take (i := 2) (oi := ?oob2) (v := ?vvb2) ?hib2 (by kernel_rfl) ?h3b2 ?h4b2 ?h5b2 ?h6b2 (by assumption) ?h8b2
        case hib2 => (simp only [List.getElem?_toArray, List.getElem?_cons_succ, List.getElem?_cons_zero]; rfl)
        case h3b2 => kernel_rfl
        case h4b2 => kernel_rfl
        case h6b2 => (refine Or.inl ⟨by rfl, ?_⟩; intro w hSw; (try dsimp only at hSw); (go_simp <;> with_reducible rfl))
        case h5b2 => exact fun _ _ _ h => h
        try simp only [Act.put, List.setIfInBounds_toArray, List.set_cons_zero, List.set_cons_succ]
        refine wpAnyH_take (i := 3) (oi := ?oob3) (v := ?vvb3) ?hib3 (by kernel_rfl) ?h3b3 ?h4b3 ?h5b3 ?h6b3 (by assumption) ?h8b3
        case hib3 => (simp only [List.getElem?_toArray, List.getElem?_cons_succ, List.getElem?_cons_zero]; rfl)
        case h3b3 => kernel_rfl
        case h4b3 => kernel_rfl
        case h6b3 => (refine Or.inl ⟨by rfl, ?_⟩; intro w hSw; (try dsimp only at hSw); (go_simp <;> with_reducible rfl))
        case h5b3 => exact fun _ _ _ h => h
        try simp only [Act.put, List.setIfInBounds_toArray, List.set_cons_zero, List.set_cons_succ]
        refine wpAnyH_take (i := 4) (oi := ?oob4) (v := undef) ?hib4 (by kernel_rfl) ?h3b4 ?h4b4 ?h5b4 ?h6b4 (by assumption) ?h8b4
        case hib4 => (simp only [List.getElem?_toArray, List.getElem?_cons_succ, List.getElem?_cons_zero]; rfl)
        case h3b4 => kernel_rfl
        case h4b4 => kernel_rfl
        case h6b4 => exact Or.inr ⟨by rfl, rfl⟩
        case h5b4 => exact fun _ _ _ h => h
        try simp only [Act.put, List.setIfInBounds_toArray, List.set_cons_zero, List.set_cons_succ]
        refine wpAnyH_take (i := 5) (oi := ?oob5) (v := undef) ?hib5 (by kernel_rfl) ?h3b5 ?h4b5 ?h5b5 ?h6b5 (by assumption) ?h8b5
        case hib5 => (simp only [List.getElem?_toArray, List.getElem?_cons_succ, List.getElem?_cons_zero]; rfl)
        case h3b5 => kernel_rfl
        case h4b5 => kernel_rfl
        case h6b5 => exact Or.inr ⟨by rfl, rfl⟩
        case h5b5 => exact fun _ _ _ h => h
        try simp only [Act.put, List.setIfInBounds_toArray, List.set_cons_zero, List.set_cons_succ]
        refine wpAnyH_take (i := 6) (oi := ?oob6) (v := undef) ?hib6 (by kernel_rfl) ?h3b6 ?h4b6 ?h5b6 ?h6b6 (by assumption) ?h8b6
        case hib6 => (simp only [List.getElem?_toArray, List.getElem?_cons_succ, List.getElem?_cons_zero]; rfl)
        case h3b6 => kernel_rfl
        case h4b6 => kernel_rfl
        case h6b6 => exact Or.inr ⟨by rfl, rfl⟩
        case h5b6 => exact fun _ _ _ h => h
        try simp only [Act.put, List.setIfInBounds_toArray, List.set_cons_zero, List.set_cons_succ]
        refine wpAnyH_take (i := 7) (oi := ?oob7) (v := undef) ?hib7 (by kernel_rfl) ?h3b7 ?h4b7 ?h5b7 ?h6b7 (by assumption) ?h8b7
        case hib7 => (simp only [List.getElem?_toArray, List.getElem?_cons_succ, List.getElem?_cons_zero]; rfl)
        case h3b7 => kernel_rfl
        case h4b7 => kernel_rfl
        case h6b7 => exact Or.inr ⟨by rfl, rfl⟩
        case h5b7 => exact fun _ _ _ h => h
        try simp only [Act.put, List.setIfInBounds_toArray, List.set_cons_zero, List.set_cons_succ]
        refine wpAnyH_take (i := 8) (oi := ?oob8) (v := undef) ?hib8 (by kernel_rfl) ?h3b8 ?h4b8 ?h5b8 ?h6b8 (by assumption) ?h8b8
        case hib8 => (simp only [List.getElem?_toArray, List.getElem?_cons_succ, List.getElem?_cons_zero]; rfl)
        case h3b8 => kernel_rfl
        case h4b8 => kernel_rfl
        case h6b8 => exact Or.inr ⟨by rfl, rfl⟩
        case h5b8 => exact fun _ _ _ h => h
        try simp only [Act.put, List.setIfInBounds_toArray, List.set_cons_zero, List.set_cons_succ]
        refine wpAnyH_take (i := 9) (oi := ?oob9) (v := undef) ?hib9 (by kernel_rfl) ?h3b9 ?h4b9 ?h5b9 ?h6b9 (by assumption) ?h8b9
        case hib9 => (simp only [List.getElem?_toArray, List.getElem?_cons_succ, List.getElem?_cons_zero]; rfl)
        case h3b9 => kernel_rfl
        case h4b9 => kernel_rfl
        case h6b9 => exact Or.inr ⟨by rfl, rfl⟩
        case h5b9 => exact fun _ _ _ h => h
        try simp only [Act.put, List.setIfInBounds_toArray, List.set_cons_zero, List.set_cons_succ]
        refine wpAnyH_take (i := 10) (oi := ?oob10) (v := undef) ?hib10 (by kernel_rfl) ?h3b10 ?h4b10 ?h5b10 ?h6b10 (by assumption) ?h8b10
        case hib10 => (simp only [List.getElem?_toArray, List.getElem?_cons_succ, List.getElem?_cons_zero]; rfl)
        case h3b10 => kernel_rfl
        case h4b10 => kernel_rfl
        case h6b10 => exact Or.inr ⟨by rfl, rfl⟩
        case h5b10 => exact fun _ _ _ h => h
        try simp only [Act.put, List.setIfInBounds_toArray, List.set_cons_zero, List.set_cons_succ]
        refine wpAnyH_take (i := 11) (oi := ?oob11) (v := undef) ?hib11 (by kernel_rfl) ?h3b11 ?h4b11 ?h5b11 ?h6b11 (by assumption) ?h8b11
        case hib11 => (simp only [List.getElem?_toArray, List.getElem?_cons_succ, List.getElem?_cons_zero]; rfl)
        case h3b11 => kernel_rfl
        case h4b11 => kernel_rfl
        case h6b11 => exact Or.inr ⟨by rfl, rfl⟩
        case h5b11 => exact fun _ _ _ h => h
        try simp only [Act.put, List.setIfInBounds_toArray, List.set_cons_zero, List.set_cons_succ]
        refine wpAnyH_take (i := 12) (oi := ?oob12) (v := undef) ?hib12 (by kernel_rfl) ?h3b12 ?h4b12 ?h5b12 ?h6b12 (by assumption) ?h8b12
        case hib12 => (simp only [List.getElem?_toArray, List.getElem?_cons_succ, List.getElem?_cons_zero]; rfl)
        case h3b12 => kernel_rfl
        case h4b12 => kernel_rfl
        case h6b12 => exact Or.inr ⟨by rfl, rfl⟩
        case h5b12 => exact fun _ _ _ h => h
        try simp only [Act.put, List.setIfInBounds_toArray, List.set_cons_zero, List.set_cons_succ]
        refine wpAnyH_take (i := 13) (oi := ?oob13) (v := undef) ?hib13 (by kernel_rfl) ?h3b13 ?h4b13 ?h5b13 ?h6b13 (by assumption) ?h8b13
        case hib13 => (simp only [List.getElem?_toArray, List.getElem?_cons_succ, List.getElem?_cons_zero]; rfl)
        case h3b13 => kernel_rfl
        case h4b13 => kernel_rfl
        case h6b13 => exact Or.inr ⟨by rfl, rfl⟩
        case h5b13 => exact fun _ _ _ h => h
        try simp only [Act.put, List.setIfInBounds_toArray, List.set_cons_zero, List.set_cons_succ]
        refine wpAnyH_take (i := 14) (oi := ?oob14) (v := undef) ?hib14 (by kernel_rfl) ?h3b14 ?h4b14 ?h5b14 ?h6b14 (by assumption) ?h8b14
        case hib14 => (simp only [List.getElem?_toArray, List.getElem?_cons_succ, List.getElem?_cons_zero]; rfl)
        case h3b14 => kernel_rfl
        case h4b14 => kernel_rfl
        case h6b14 => exact Or.inr ⟨by rfl, rfl⟩
        case h5b14 => exact fun _ _ _ h => h
        try simp only [Act.put, List.setIfInBounds_toArray, List.set_cons_zero, List.set_cons_succ]
        refine wpAnyH_take (i := 15) (oi := ?oob15) (v := undef) ?hib15 (by kernel_rfl) ?h3b15 ?h4b15 ?h5b15 ?h6b15 (by assumption) ?h8b15
        case hib15 => (simp only [List.getElem?_toArray, List.getElem?_cons_succ, List.getElem?_cons_zero]; rfl)
        case h3b15 => kernel_rfl
        case h4b15 => kernel_rfl
        case h6b15 => exact Or.inr ⟨by rfl, rfl⟩
        case h5b15 => exact fun _ _ _ h => h
        try simp only [Act.put, List.setIfInBounds_toArray, List.set_cons_zero, List.set_cons_succ]
        refine wpAnyH_take (i := 16) (oi := ?oob16) (v := undef) ?hib16 (by kernel_rfl) ?h3b16 ?h4b16 ?h5b16 ?h6b16 (by assumption) ?h8b16
        case hib16 => (simp only [List.getElem?_toArray, List.getElem?_cons_succ, List.getElem?_cons_zero]; rfl)
        case h3b16 => kernel_rfl
        case h4b16 => kernel_rfl
        case h6b16 => exact Or.inr ⟨by rfl, rfl⟩
        case h5b16 => exact fun _ _ _ h => h
        try simp only [Act.put, List.setIfInBounds_toArray, List.set_cons_zero, List.set_cons_succ]
        refine wpAnyH_take (i := 17) (oi := ?oob17) (v := undef) ?hib17 (by kernel_rfl) ?h3b17 ?h4b17 ?h5b17 ?h6b17 (by assumption) ?h8b17
        case hib17 => (simp only [List.getElem?_toArray, List.getElem?_cons_succ, List.getElem?_cons_zero]; rfl)
        case h3b17 => kernel_rfl
        case h4b17 => kernel_rfl
        case h6b17 => exact Or.inr ⟨by rfl, rfl⟩
        case h5b17 => exact fun _ _ _ h => h
        try simp only [Act.put, List.setIfInBounds_toArray, List.set_cons_zero, List.set_cons_succ]
        refine wpAnyH_take (i := 18) (oi := ?oob18) (v := undef) ?hib18 (by kernel_rfl) ?h3b18 ?h4b18 ?h5b18 ?h6b18 (by assumption) ?h8b18
        case hib18 => (simp only [List.getElem?_toArray, List.getElem?_cons_succ, List.getElem?_cons_zero]; rfl)
        case h3b18 => kernel_rfl
        case h4b18 => kernel_rfl
        case h6b18 => exact Or.inr ⟨by rfl, rfl⟩
        case h5b18 => exact fun _ _ _ h => h
        try simp only [Act.put, List.setIfInBounds_toArray, List.set_cons_zero, List.set_cons_succ]
        refine wpAnyH_take (i := 19) (oi := ?oob19) (v := ?vvb19) ?hib19 (by kernel_rfl) ?h3b19 ?h4b19 ?h5b19 ?h6b19 (by assumption) ?h8b19
        case hib19 => (simp only [List.getElem?_toArray, List.getElem?_cons_succ, List.getElem?_cons_zero]; rfl)
        case h3b19 => kernel_rfl
        case h4b19 => kernel_rfl
        case h6b19 => (refine Or.inl ⟨by rfl, ?_⟩; intro w hSw; (try dsimp only at hSw); (go_simp <;> with_reducible rfl))
        case h5b19 => exact fun _ _ _ h => h
        try simp only [Act.put, List.setIfInBounds_toArray, List.set_cons_zero, List.set_cons_succ]
        refine wpAnyH_done (by kernel_rfl) ?_ _
        have B2 := bel_tr HB.out (And.right (by assumption))
        go_wp2_with fail
        go_roundw
        case rel => exact ⟨k + 1, by omega, by go_num, B2⟩
        case measure => simp [intOf]; omega
      · have d1 : ((k : Int) != (y : Int)) = true := by rw [bne_iff_ne]; omega
        have d2 : (k != y) = true := by rw [bne_iff_ne]; omega
        have HV := Lib.hid (HRM.out k hlt hky)
        clear hky
        go_wp2_with fail
        refine wp_region_held_drew (S := (fun w' => True ∧ Below wr.heap.size wr w')) (by kernel_rfl) ?_ (fun hHeld => ?_)
        · exact ⟨trivial, (Below.refl _ _).drew⟩
        refine wpAnyH_take (i := 0) (oi := ?ooc0) (v := ?vvc0) ?hic0 (by kernel_rfl) ?h3c0 ?h4c0 ?h5c0 ?h6c0 (by assumption) ?h8c0
        case hic0 => (simp only [List.getElem?_toArray, List.getElem?_cons_succ, List.getElem?_cons_zero]; rfl)
        case h3c0 => kernel_rfl
        case h4c0 => kernel_rfl
        case h6c0 => (refine Or.inl ⟨by rfl, ?_⟩; intro w hSw; (try dsimp only at hSw); (go_simp <;> with_reducible rfl))
        case h5c0 => exact fun _ _ _ h => h
        try simp only [Act.put, List.setIfInBounds_toArray, List.set_cons_zero, List.set_cons_succ]
        refine wpAnyH_take (i := 1) (oi := ?ooc1) (v := ?vvc1) ?hic1 (by kernel_rfl) ?h3c1 ?h4c1 ?h5c1 ?h6c1 (by assumption) ?h8c1
        case hic1 => (simp only [List.getElem?_toArray, List.getElem?_cons_succ, List.getElem?_cons_zero]; rfl)
        case h3c1 => kernel_rfl
        case h4c1 => kernel_rfl
        case h6c1 => (refine Or.inl ⟨by rfl, ?_⟩; intro w hSw; (try dsimp only at hSw); (go_simp <;> with_reducible rfl))
        case h5c1 => exact fun _ _ _ h => h
        try simp only [Act.put, List.setIfInBounds_toArray, List.set_cons_zero, List.set_cons_succ]
        refine wpAnyH_take (i := 2) (oi := ?ooc2) (v := ?vvc2) ?hic2 (by kernel_rfl) ?h3c2 ?h4c2 ?h5c2 ?h6c2 (by assumption) ?h8c2
        case hic2 => (simp only [List.getElem?_toArray, List.getElem?_cons_succ, List.getElem?_cons_zero]; rfl)
        case h3c2 => kernel_rfl
        case h4c2 => kernel_rfl
        case h6c2 => (refine Or.inl ⟨by rfl, ?_⟩; intro w hSw; (try dsimp only at hSw); (go_simp <;> with_reducible rfl))
        case h5c2 => exact fun _ _ _ h => h
        try simp only [Act.put, List.setIfInBounds_toArray, List.set_cons_zero, List.set_cons_succ]
        refine wpAnyH_take (i := 3) (oi := ?ooc3) (v := ?vvc3) ?hic3 (by kernel_rfl) ?h3c3 ?h4c3 ?h5c3 ?h6c3 (by assumption) ?h8c3
        case hic3 => (simp only [List.getElem?_toArray, List.getElem?_cons_succ, List.getElem?_cons_zero]; rfl)
        case h3c3 => kernel_rfl
        case h4c3 => kernel_rfl
        case h6c3 => (refine Or.inl ⟨by rfl, ?_⟩; intro w hSw; (try dsimp only at hSw); (go_simp <;> with_reducible rfl))
        case h5c3 => exact fun _ _ _ h => h
        try simp only [Act.put, List.setIfInBounds_toArray, List.set_cons_zero, List.set_cons_succ]
        refine wpAnyH_take (i := 5) (oi := ?ooc5) (v := ?vvc5) ?hic5 (by kernel_rfl) ?h3c5 ?h4c5 ?h5c5 ?h6c5 (by assumption) ?h8c5
        case hic5 => (simp only [List.getElem?_toArray, List.getElem?_cons_succ, List.getElem?_cons_zero]; rfl)
        case h3c5 => kernel_rfl
        case h4c5 => kernel_rfl
        case h6c5 => (refine Or.inl ⟨by rfl, ?_⟩; intro w hSw; (try dsimp only at hSw); (go_simp <;> with_reducible rfl))
        case h5c5 => exact fun _ _ _ h => h
        try simp only [Act.put, List.setIfInBounds_toArray, List.set_cons_zero, List.set_cons_succ]
        refine wpAnyH_take (i := 6) (oi := ?ooc6) (v := ?vvc6) ?hic6 (by kernel_rfl) ?h3c6 ?h4c6 ?h5c6 ?h6c6 (by assumption) ?h8c6
        case hic6 => (simp only [List.getElem?_toArray, List.getElem?_cons_succ, List.getElem?_cons_zero]; rfl)
        case h3c6 => kernel_rfl
        case h4c6 => kernel_rfl
        case h6c6 => (refine Or.inl ⟨by rfl, ?_⟩; intro w hSw; (try dsimp only at hSw); (go_simp <;> with_reducible rfl))
        case h5c6 => exact fun _ _ _ h => h
        try simp only [Act.put, List.setIfInBounds_toArray, List.set_cons_zero, List.set_cons_succ]
        refine wpAnyH_take (i := 7) (oi := ?ooc7) (v := ?vvc7) ?hic7 (by kernel_rfl) ?h3c7 ?h4c7 ?h5c7 ?h6c7 (by assumption) ?h8c7
        case hic7 => (simp only [List.getElem?_toArray, List.getElem?_cons_succ, List.getElem?_cons_zero]; rfl)
        case h3c7 => kernel_rfl
        case h4c7 => kernel_rfl
        case h6c7 => (refine Or.inl ⟨by rfl, ?_⟩; intro w hSw; (try dsimp only at hSw); (go_simp <;> with_reducible rfl))
        case h5c7 => exact fun _ _ _ h => h
        try simp only [Act.put, List.setIfInBounds_toArray, List.set_cons_zero, List.set_cons_succ]
        refine wpAnyH_take (i := 9) (oi := ?ooc9) (v := ?vvc9) ?hic9 (by kernel_rfl) ?h3c9 ?h4c9 ?h5c9 ?h6c9 (by assumption) ?h8c9
        case hic9 => (simp only [List.getElem?_toArray, List.getElem?_cons_succ, List.getElem?_cons_zero]; rfl)
        case h3c9 => kernel_rfl
        case h4c9 => kernel_rfl
        case h6c9 => (refine Or.inl ⟨by rfl, ?_⟩; intro w hSw; (try dsimp only at hSw); (go_simp <;> with_reducible rfl))
        case h5c9 => exact fun _ _ _ h => h
        try simp only [Act.put, List.setIfInBounds_toArray, List.set_cons_zero, List.set_cons_succ]
        refine wpAnyH_take (i := 10) (oi := ?ooc10) (v := ?vvc10) ?hic10 (by kernel_rfl) ?h3c10 ?h4c10 ?h5c10 ?h6c10 (by assumption) ?h8c10
        case hic10 => (simp only [List.getElem?_toArray, List.getElem?_cons_succ, List.getElem?_cons_zero]; rfl)
        case h3c10 => kernel_rfl
        case h4c10 => kernel_rfl
        case h6c10 => (refine Or.inl ⟨by rfl, ?_⟩; intro w hSw; (try dsimp only at hSw); (go_simp <;> with_reducible rfl))
        case h5c10 => exact fun _ _ _ h => h
        try simp only [Act.put, List.setIfInBounds_toArray, List.set_cons_zero, List.set_cons_succ]
        refine wpAnyH_take (i := 11) (oi := ?ooc11) (v := ?vvc11) ?hic11 (by kernel_rfl) ?h3c11 ?h4c11 ?h5c11 ?h6c11 (by assumption) ?h8c11
        case hic11 => (simp only [List.getElem?_toArray, List.getElem?_cons_succ, List.getElem?_cons_zero]; rfl)
        case h3c11 => kernel_rfl
        case h4c11 => kernel_rfl
        case h6c11 => (refine Or.inl ⟨by rfl, ?_⟩; intro w hSw; (try dsimp only at hSw); (go_simp <;> with_reducible rfl))
        case h5c11 => exact fun _ _ _ h => h
        try simp only [Act.put, List.setIfInBounds_toArray, List.set_cons_zero, List.set_cons_succ]
        refine wpAnyH_take (i := 12) (oi := ?ooc12) (v := ?vvc12) ?hic12 (by kernel_rfl) ?h3c12 ?h4c12 ?h5c12 ?h6c12 (by assumption) ?h8c12
        case hic12 => (simp only [List.getElem?_toArray, List.getElem?_cons_succ, List.getElem?_cons_zero]; rfl)
        case h3c12 => kernel_rfl
        case h4c12 => kernel_rfl
        case h6c12 => (refine Or.inl ⟨by rfl, ?_⟩; intro w hSw; (try dsimp only at hSw); (go_simp <;> with_reducible rfl))
        case h5c12 => exact fun _ _ _ h => h
        try simp only [Act.put, List.setIfInBounds_toArray, List.set_cons_zero, List.set_cons_succ]
        refine wpAnyH_take (i := 14) (oi := ?ooc14) (v := ?vvc14) ?hic14 (by kernel_rfl) ?h3c14 ?h4c14 ?h5c14 ?h6c14 (by assumption) ?h8c14
        case hic14 => (simp only [List.getElem?_toArray, List.getElem?_cons_succ, List.getElem?_cons_zero]; rfl)
        case h3c14 => kernel_rfl
        case h4c14 => kernel_rfl
        case h6c14 => (refine Or.inl ⟨by rfl, ?_⟩; intro w hSw; (try dsimp only at hSw); (go_simp <;> with_reducible rfl))
        case h5c14 => exact fun _ _ _ h => h
        try simp only [Act.put, List.setIfInBounds_toArray, List.set_cons_zero, List.set_cons_succ]
        refine wpAnyH_take (i := 15) (oi := ?ooc15) (v := ?vvc15) ?hic15 (by kernel_rfl) ?h3c15 ?h4c15 ?h5c15 ?h6c15 (by assumption) ?h8c15
        case hic15 => (simp only [List.getElem?_toArray, List.getElem?_cons_succ, List.getElem?_cons_zero]; rfl)
        case h3c15 => kernel_rfl
        case h4c15 => kernel_rfl
        case h6c15 => (refine Or.inl ⟨by rfl, ?_⟩; intro w hSw; (try dsimp only at hSw); (go_simp <;> with_reducible rfl))
        case h5c15 => exact fun _ _ _ h => h
        try simp only [Act.put, List.setIfInBounds_toArray, List.set_cons_zero, List.set_cons_succ]
        refine wpAnyH_take (i := 17) (oi := ?ooc17) (v := ?vvc17) ?hic17 (by kernel_rfl) ?h3c17 ?h4c17 ?h5c17 ?h6c17 (by assumption) ?h8c17
        case hic17 => (simp only [List.getElem?_toArray, List.getElem?_cons_succ, List.getElem?_cons_zero]; rfl)
        case h3c17 => kernel_rfl
        case h4c17 => kernel_rfl
        case h6c17 => (refine Or.inl ⟨by rfl, ?_⟩; intro w hSw; (try dsimp only at hSw); (go_simp <;> with_reducible rfl))
        case h5c17 => exact fun _ _ _ h => h
        try simp only [Act.put, List.setIfInBounds_toArray, List.set_cons_zero, List.set_cons_succ]
        refine wpAnyH_ready (rs := [4]) (by kernel_rfl) (by simp) (AllReadyH.cons (o := ?ooc4) ?hic4 (fun K hK => ?hkc4) AllReadyH.nil)
        rotate_left
        case hic4 => (simp only [List.getElem?_toArray, List.getElem?_cons_succ, List.getElem?_cons_zero]; rfl)
        (rw [if_pos (by rfl)]; go_simp; have O1 := Lib.hid (own_emptyRu wr.drew); have T1 := Lib.hid (ru_below HRU.out (hHeld.2.alloc hHeld.2.size (.cells #[] 46))); have E1 := Lib.hid (hHeld.2.alloc hHeld.2.size (.cells #[] 46)); refine hK.out _ _ (⟨trivial, E1.out⟩) (fun hHeld => ?_); clear hK K)
        try simp only [Act.put, List.setIfInBounds_toArray, List.set_cons_zero, List.set_cons_succ]
        refine wpAnyH_ready (rs := [8]) (by kernel_rfl) (by simp) (AllReadyH.cons (o := ?ooc8) ?hic8 (fun K hK => ?hkc8) AllReadyH.nil)
        rotate_left
        case hic8 => (simp only [List.getElem?_toArray, List.getElem?_cons_succ, List.getElem?_cons_zero]; rfl)
        (rw [if_pos (by rfl)]; refine wp_append_any _ (.tmp 52) (.tmp 55) _ rfl wr.heap.size 46 i0 _ 5 40 Try.underlying34 hi hz0 hz1 hz2 rfl (by decide) _ 0 [] rfl O1.out _ (some ⟨g, oo, none⟩) k cp (valsRu (xs.take k)) rfl (take_readsRu T1.out (by omega)) (valsRu_one _) (by unfold maxLen; omega) (by omega) E1.out.size ?_; intro v1 W2 own1 gr1 ob1; have E2 := Lib.hid (E1.out.grown gr1 E1.out.size (fun q hq => (O1.out.lt q hq).1)); have T2 := Lib.hid (ru_below HRU.out E2.out); have O2 := Lib.hid own1; clear gr1 ob1 own1 O1 T1; refine hK.out _ _ (⟨trivial, E2.out⟩) (fun hHeld => ?_); clear hK K)
        try simp only [Act.put, List.setIfInBounds_toArray, List.set_cons_zero, List.set_cons_succ]
        refine wpAnyH_ready (rs := [13]) (by kernel_rfl) (by simp) (AllReadyH.cons (o := ?ooc13) ?hic13 (fun K hK => ?hkc13) AllReadyH.nil)
        rotate_left
        case hic13 => (simp only [List.getElem?_toArray, List.getElem?_cons_succ, List.getElem?_cons_zero]; rfl)
        (rw [if_pos (by rfl)]; refine wp_append_any _ (.tmp 56) (.tmp 60) _ rfl wr.heap.size 46 i0 _ 5 40 Try.underlying34 hi hz0 hz1 hz2 rfl (by decide) _ _ _ rfl O2.out _ _ (xs.length - (k + 1)) (cp - (k + 1)) (valsRu (xs.drop (k + 1))) rfl (drop_readsRu T2.out (by omega) hlc) (valsRu_one _) (by unfold maxLen; omega) (by omega) E2.out.size ?_; intro v2 W3 own2 gr2 ob2; have E3 := Lib.hid (E2.out.grown gr2 E2.out.size (fun q hq => (O2.out.lt q hq).1)); have hcap2 := own_capRu own2; obtain ⟨b2, cap2, rfl, T3⟩ := own_bothRu own2 hlt; have hcap3 := Lib.hid (hcap2 _ _ _ rfl); clear hcap2; have HL : Hid ((xs.take k ++ xs.drop (k + 1)).length ≤ 1048576) := (show _ ≤ _ by rw [List.length_append, List.length_take, List.length_drop]; omega); generalize xs.take k ++ xs.drop (k + 1) = L at T3 HV HL hcap3 ⊢; have T3 := Lib.hid T3; generalize (if cp = k + 1 then (some ⟨g, oo, none⟩ : Option Addr) else some ⟨g, oo + (k + 1) * 5, none⟩) = A44; clear gr2 ob2 own2 O2 T2; refine hK.out _ _ (⟨trivial, E3.out⟩) (fun hHeld => ?_); clear hK K)
        try simp only [Act.put, List.setIfInBounds_toArray, List.set_cons_zero, List.set_cons_succ]
        refine wpAnyH_ready (rs := [16]) (by kernel_rfl) (by simp) (AllReadyH.cons (o := ?ooc16) ?hic16 (fun K hK => ?hkc16) AllReadyH.nil)
        rotate_left
        case hic16 => (simp only [List.getElem?_toArray, List.getElem?_cons_succ, List.getElem?_cons_zero]; rfl)
        (rw [if_pos (by rfl)]; go_simp; refine (iVd b2 cap2 _ hh u _ T3.out HL.out).mono ?_; rintro e W4 ⟨rfl, hb⟩; rw [HV.out]; go_wp2_with fail; refine hK.out _ _ (⟨trivial, bel_tr E3.out hb⟩) (fun hHeld => ?_); clear hK K)
        try simp only [Act.put, List.setIfInBounds_toArray, List.set_cons_zero, List.set_cons_succ]
        refine wpAnyH_take (i := 18) (oi := ?ooc18) (v := ?vvc18) ?hic18 (by kernel_rfl) ?h3c18 ?h4c18 ?h5c18 ?h6c18 (by assumption) ?h8c18
        case hic18 => (simp only [List.getElem?_toArray, List.getElem?_cons_succ, List.getElem?_cons_zero]; rfl)
        case h3c18 => kernel_rfl
        case h4c18 => kernel_rfl
        case h6c18 => (refine Or.inl ⟨by rfl, ?_⟩; intro w hSw; (try dsimp only at hSw); (go_simp <;> with_reducible rfl))
        case h5c18 => exact fun _ _ _ h => h
        try simp only [Act.put, List.setIfInBounds_toArray, List.set_cons_zero, List.set_cons_succ]
        refine wpAnyH_take (i := 19) (oi := ?ooc19) (v := ?vvc19) ?hic19 (by kernel_rfl) ?h3c19 ?h4c19 ?h5c19 ?h6c19 (by assumption) ?h8c19
        case hic19 => (simp only [List.getElem?_toArray, List.getElem?_cons_succ, List.getElem?_cons_zero]; rfl)
        case h3c19 => kernel_rfl
        case h4c19 => kernel_rfl
        case h6c19 => (refine Or.inl ⟨by rfl, ?_⟩; intro w hSw; (try dsimp only at hSw); (go_simp <;> with_reducible rfl))
        case h5c19 => exact fun _ _ _ h => h
        try simp only [Act.put, List.setIfInBounds_toArray, List.set_cons_zero, List.set_cons_succ]
        refine wpAnyH_done (by kernel_rfl) ?_ _
        have B2 := bel_tr HB.out (And.right (by assumption))
        go_wp2_with fail
        go_roundw
        case rel => exact ⟨k + 1, by omega, by go_num, B2⟩
        case measure => simp [intOf]; omega
    · have IR2 := ru_below HIR.out hB
      have HB2 := Lib.hid (bel_tr HB0.out hB)
      rcases IR2 with hnil | ⟨g, oo, rfl, hc⟩
      · rw [hnil] at hy; exact absurd hy (Nat.not_lt_zero _)
      have HT : IsRu wr (some ⟨g, oo + y * 5, none⟩) [xs.getD y ru0] := .inr ⟨g, oo + y * 5, rfl, fun i hi => by
        have hi : i < 1 := hi
        obtain rfl : i = 0 := by omega
        exact hc y hy⟩
      have HCV : Hid (∀ W, Below wr.heap.size wr W → Calls Try.prog 29 #[.slice (some ⟨g, oo + y * 5, none⟩) 1 (cp - y), .int .i64 hh, .int .i64 u] W fun e w' => e = .returned (.int .i64 V) ∧ Below W.heap.size W w') := fun W hW => by
        have h := iVd (some ⟨g, oo + y * 5, none⟩) (cp - y) [xs.getD y ru0] hh u W (ru_below HT hW) (show 1 ≤ 1048576 by omega)
        rw [HON.out] at h; exact h
      have yN : ((y : Int) + 1).toNat = y + 1 := by omega
      have y0 : (0 : Int) ≤ (y : Int) := by omega
      have y1 : (y : Int) ≤ (y : Int) + 1 := by omega
      have y2 : (y : Int) + 1 ≤ (cp : Int) := by omega
      have wy : IntKind.i64.wrap ((y : Int) + 1) = (y : Int) + 1 := by rw [IntKind.wrap_i64]; omega
      clear hc hB HT
      go_wp2_with fail
      refine (HCV.out _ (Below.refl _ _)).mono ?_
      rintro e w8 ⟨rfl, C8⟩
      have HB3 := Lib.hid (bel_tr HB2.out C8)
      clear C8
      go_wp2_with fail
      go_ret
      exact ⟨rfl, HB3.out⟩

set_option maxRecDepth 100000 in
theorem lifted (os : Os) (started : os.Started) (H : Type) (enc : TypeId × Value → H) :
    ReturnsInHanded {} Try.checked os 11 .any (Rows.fnVerdictOfSpec.pre6 enc Try.prog Try.f11 Rows.fnVerdictOfRow.domain false) (Rows.fnVerdictOfSpec.post enc Try.prog Try.f11 false true false false) := by
  refine returnsInHanded_of_change (C := Try.checked) own started (by kernel_rfl) Try.func11
    (ChangeSpec.witness6 (enc := enc) (C := Try.checked) false ⟨#[], #[.slice none 0 0], []⟩ 8 (by kernel_rfl) (by kernel_rfl) (by kernel_rfl) (by kernel_rfl)) ?_
  intro W base args ds gs before hval0 hW hcnd _
  have hval : ∀ (j : Nat) t v, Try.f11.params[j]? = some t → args[j]? = some v → Value.okWide Try.prog W .any base t v := hval0
  have hW' := hW
  obtain ⟨p, q, hA0, hV, rfl, hfz, hnd⟩ := hW
  have hA : DataW.TrodAll enc Try.prog W 0 (fun _ => true) true Try.f11.params.toList args.toList ds p := hA0
  rw [Try.params11] at hA hval
  obtain ⟨v0, vs0, e0, es0, p0, q0, hargs, rfl, rfl, h0, r0⟩ := trodAll_cons hA
  obtain ⟨rfl, rfl, rfl⟩ := trodAll_nil r0
  obtain rfl : args = #[v0] := by cases args; simp_all
  obtain ⟨rfl, rfl⟩ := trodVars_none hV
  have k0 := h0
  have lt0 : ∀ x ∈ p0, x.block < W.heap.size := by obtain ⟨m, hm⟩ := k0; exact DataW.trod_lt m _ _ _ hm
  obtain ⟨a0, len0, cap0, rfl⟩ := okWide_slice Try.underlying22 (hval 0 22 v0 rfl rfl)
  obtain ⟨z0, w0⟩ : ∃ zs, IsRow .u8 W a0 len0 cap0 zs := by
    obtain ⟨fuel, hf⟩ := h0
    rcases open_ints Try.underlying22 Try.underlying5 (by kernel_rfl) hf with ⟨hcs, _⟩ | ⟨x, l, c, zs, hcs, _, hl, hm, hz, _, hcell, hwz⟩
    · simp [Value.cells] at hcs
      obtain ⟨rfl, rfl, rfl⟩ := hcs
      exact ⟨[], .inl ⟨rfl, rfl, rfl, rfl⟩⟩
    · simp [Value.cells] at hcs
      obtain ⟨rfl, rfl, rfl⟩ := hcs
      exact ⟨zs, .inr ⟨_, rfl, hl, hm, by simpa using hz, hcell, hwz⟩⟩
  clear hA0 hval0
  refine (walk a0 len0 cap0 z0 W w0).mono fun e W' ⟨he, bel⟩ => ?_
  subst he
  exact ⟨_, rfl, _, _, _, [], _, [], hW', trodAll_mk1 (shut_bool Try.underlying4 _), (trodAll_cons_mk (Below.trod laidOut (by kernel_rfl) (of_decide_eq_true (by kernel_rfl)) k0 bel lt0) trodAll_mk0), rfl, bel.frame _, fun h => by cases h⟩

theorem over : Rows.fnVerdictOfRow.holds Try.pinned (OpenSpec.ofChange Rows.fnVerdictOfSpec) :=
  OpenClaim.holds_of_wide 11 Try.f11 rfl rfl rfl rfl rfl rfl rfl ⟨rfl, rfl, rfl, rfl, rfl⟩ rfl rfl rfl rfl rfl (by kernel_rfl) Try.func11 (by kernel_rfl)
    (of_decide_eq_true (by kernel_rfl)) (by unfold Func.isWrapper; first | (rw [if_pos (by decide +kernel)]; kernel_rfl) | (rw [if_neg (by decide +kernel)]; exact ⟨rfl, rfl⟩))
    (fun os started H enc _ => lifted os started H enc)

end Go.Proofs.Ytigapnbpgbfbhab.fnVerdictOf
namespace Go.Proofs.Ytigapnbpgbfbhab
/-- the statement -/
theorem fnVerdictOf_holds : Rows.FnVerdictOfSaid := fnVerdictOf.over
end Go.Proofs.Ytigapnbpgbfbhab
