/- For every input the law answers true, and its argument reads afterwards as before: more water yields more. No condition. -/
import Derived.Test.YtigapnbpgbfbhacRows
import Derived.Test.YtigapnbpgbfbhacDrawPl
import Derived.Test.YtigapnbpgbfbhacPloT
import Derived.Test.YtigapnbpgbfbhacPloQ
import Derived.Test.YtigapnbpgbfbhacLawIn
import Derived.WalkKit
import Derived.Deep.RegionHeld3
import Derived.Deep.RegionWith
import Derived.Deep.QuietTactic
import Derived.BigQuiet
import Derived.RegionTactic
import Derived.ChangeAlike
import Derived.BigRegion
import Derived.ProofKit
import Derived.OpenShut
import Derived.ShutString
import Derived.ChangeOld
import Derived.Below
import Derived.Lib.SmallJoins
namespace Go.Proofs.Ytigapnbpgbfbhac.fnBestYield
open Go.ChangeShapes Go.WideShapes Go.ChangeAt Go.RowKit Go.Joins
open Go.ChangeMaps (open_string shut_string)
set_option linter.unusedVariables false
set_option linter.unusedSimpArgs false

theorem own : ownKnob Try.prog.godebug = none := by kernel_rfl
theorem laidOut : laidOutB Try.prog = true := by kernel_rfl

set_option maxRecDepth 100000 in
set_option maxHeartbeats 8000000 in
theorem walk (a0 : Option Addr) (len0 cap0 : Nat) (z0 : List Int) (w : World) (w0 : IsRow .u8 w a0 len0 cap0 z0) :
    Calls Try.prog 8 #[.slice a0 len0 cap0] w fun e w' => e = .returned (.bool true) ∧ Below w.heap.size w w' := by
  by_cases big : (1048576 : Int) < (len0 : Int)
  · go_enter Try.func8, Try.ntmps8
    go_wp2
    go_ret
    exact ⟨rfl, Below.refl _ _⟩
  go_enter Try.func8, Try.ntmps8
  go_wp2_with fail
  refine (drawBY a0 len0 cap0 z0 _ w0).mono ?_
  rintro e u1 ⟨b1, cp, xs, u, rfl, ⟨q0, q1⟩, l6, hlc, IR, B⟩
  clear w0 big
  have n1 : xs.length ≤ 1048576 := by omega
  obtain ⟨V, hV⟩ : ∃ V, byV xs u = V := ⟨_, rfl⟩
  have HI : Hid (∀  (W : World), (h1 : IsPl W b1 xs) → Calls Try.prog 18 #[.slice b1 xs.length cp, .int .i64 u] W (fun e w' => e = .returned (.int .i64 V) ∧ Below W.heap.size W w')) := fun  W h1 => by have h := iBY b1 cp xs u W h1 n1; rw [hV] at h; exact h
  have HS : Hid (∀  (W : World), (h1 : IsPl W b1 xs) → Calls Try.prog 17 #[.slice b1 xs.length cp, .int .i64 u] W (fun e w' => e = .returned (.int .i64 V) ∧ Below W.heap.size W w')) := fun  W h1 => by have h := sBY b1 cp xs u W h1 n1; rw [hV] at h; exact h
  by_cases hz : V < 0
  · have e0 : decide (V < 0) = true := decide_eq_true hz
    clear hV hz
    go_wp2_with fail
    refine (HI.out _ IR).mono ?_
    rintro e u2_ ⟨rfl, C_⟩
    replace B := bel_tr B C_
    replace IR := pl_below IR C_
    clear C_
    go_wp2_with fail
    refine (HS.out _ IR).mono ?_
    rintro e u3_ ⟨rfl, C_⟩
    replace B := bel_tr B C_
    replace IR := pl_below IR C_
    clear C_
    go_wp2_with fail
    refine (HS.out _ IR).mono ?_
    rintro e u4_ ⟨rfl, C_⟩
    replace B := bel_tr B C_
    replace IR := pl_below IR C_
    clear C_
    go_wp2_with fail
    go_ret
    exact ⟨rfl, B⟩
  have e0 : decide (V < 0) = false := decide_eq_false hz
  have hw : wpB xs u = true := by
    cases h : wpB xs u with
    | true => rfl
    | false => rw [byV_no h] at hV; omega
  obtain ⟨hv, w0, w5⟩ := wp_is hw
  obtain ⟨M, hM⟩ : ∃ M : Nat, u = (M : Int) := ⟨u.toNat, by omega⟩
  subst hM
  rw [byV_yes hw] at hV
  have HA : Hid (V ≤ allY xs xs.length) := by show V ≤ _; rw [← hV]; exact yT_all hv _ _
  have HO : Hid (∀ i, i < xs.length → (xs.getD i pl0).1 ≤ (M : Int) → (xs.getD i pl0).2 ≤ V) := fun i hi hn => by rw [← hV]; exact yT_one hv hi hn
  have HBD : Hid (∀ k, k ≤ xs.length → 0 ≤ allY xs k ∧ allY xs k ≤ 1000 * (k : Int)) := fun k => by
    induction k with
    | zero => intro _; exact ⟨Int.le_refl _, Int.le_refl _⟩
    | succ k ih =>
      intro hk
      have h1 := ih (by omega)
      have h2 := (vp_at hv (show k < xs.length by omega)).2
      rw [allY_succ]; omega
  have HVA : Hid (∀ k, k < xs.length → 1 ≤ (xs.getD k pl0).2 ∧ (xs.getD k pl0).2 ≤ 1000) := fun k hk => (vp_at hv hk).2
  have HN : Hid (∀  (W : World), (hq : (M : Int) ≠ 500) → (h1 : IsPl W b1 xs) → Calls Try.prog 18 #[.slice b1 xs.length cp, .int .i64 ((M : Int) + 1)] W (fun e w' => ∃ y, V ≤ y ∧ e = .returned (.int .i64 y) ∧ Below W.heap.size W w')) := fun  W hq h1 => by have h := iBY b1 cp xs ((M + 1 : Nat) : Int) W h1 n1; rw [byV_yes (wp_yes hv (by omega) (by omega)), show ((M + 1 : Nat) : Int) = (M : Int) + 1 from by omega] at h; exact h.mono (fun e w h => ⟨_, by rw [← hV]; exact yT_mono xs _ _, h.1, h.2⟩)
  have wM : IntKind.i64.wrap ((M : Int) + 1) = (M : Int) + 1 := by rw [IntKind.wrap_i64]; omega
  clear hV hz hv hw w0 q0 q1
  go_wp2_with fail
  refine (HI.out _ IR).mono ?_
  rintro e u2_ ⟨rfl, C_⟩
  replace B := bel_tr B C_
  replace IR := pl_below IR C_
  clear C_
  go_wp2_with fail
  refine (HS.out _ IR).mono ?_
  rintro e u3_ ⟨rfl, C_⟩
  replace B := bel_tr B C_
  replace IR := pl_below IR C_
  clear C_
  go_wp2_with fail
  clear HI HS
  have HIR := Lib.hid IR
  have HB0 := Lib.hid B
  clear B IR
  go_loopw [6, 7] (fun s i wr => ∃ k : Nat, k ≤ xs.length ∧ i = .int .i64 k ∧ s = .int .i64 (allY xs k) ∧ wr = u3_) (fun _ i _ => xs.length - (intOf i).toNat)
  case atStart => exact ⟨0, Nat.zero_le _, rfl, rfl, rfl⟩
  case round =>
    obtain ⟨k, hk, rfl, rfl, rfl⟩ := hrel
    by_cases hlt : k < xs.length
    · have IR2 := HIR.out
      rcases IR2 with hnil | ⟨g, oo, rfl, hc⟩
      · rw [hnil] at hlt; exact absurd hlt (Nat.not_lt_zero _)
      obtain ⟨c0, c1⟩ := hc k hlt
      have ho := HO.out k hlt
      have hs := allY_succ xs k
      have hbd := HBD.out k hk
      have hva := HVA.out k hlt
      have k0 : (0 : Int) ≤ (k : Int) := by omega
      have kx : (k : Int) < (xs.length : Int) := by omega
      generalize xs.getD k pl0 = r at c0 c1 ho hs hva
      obtain ⟨x0, x1⟩ := r
      dsimp only at c0 c1 ho hs hva
      generalize allY xs k = S at hs hbd ⊢
      have ws : IntKind.i64.wrap (S + x1) = S + x1 := by rw [IntKind.wrap_i64]; omega
      have HS_ := Lib.hid hs
      clear hc hs hbd hva
      by_cases c : x0 ≤ (M : Int)
      · have d1 : decide (x0 ≤ (M : Int)) = true := decide_eq_true c
        have d2 : decide (V < x1) = false := decide_eq_false (by have := ho c; omega)
        clear ho c
        go_wp2_with fail
        go_roundw
        case rel => exact ⟨k + 1, by omega, by go_num, by rw [HS_.out], by first | exact trivial | rfl⟩
        case measure => simp [intOf]; omega
      · have d1 : decide (x0 ≤ (M : Int)) = false := decide_eq_false c
        clear ho c
        go_wp2_with fail
        go_roundw
        case rel => exact ⟨k + 1, by omega, by go_num, by rw [HS_.out], by first | exact trivial | rfl⟩
        case measure => simp [intOf]; omega
    · obtain rfl : k = xs.length := by omega
      have ha := HA.out
      generalize allY xs xs.length = S at ha ⊢
      have d0 : decide (V ≤ S) = true := decide_eq_true ha
      by_cases hq : (M : Int) = 500
      · have d1 : ((M : Int) == 500) = true := by rw [hq]; rfl
        have d2 : (M == 500) = true := by rw [beq_iff_eq]; omega
        have HQ := Lib.hid hq
        clear ha hq
        go_wp2_with fail
        go_ret
        exact ⟨rfl, HB0.out⟩
      · have d1 : ((M : Int) == 500) = false := beq_eq_false_iff_ne.2 hq
        have d2 : (M == 500) = false := beq_eq_false_iff_ne.2 (by omega)
        have CN := HN.out wr hq HIR.out
        clear ha hq
        go_wp2_with fail
        refine CN.mono ?_
        rintro e w9 ⟨y, hy, rfl, C9⟩
        have dy : decide (V ≤ y) = true := decide_eq_true hy
        have HB2 := Lib.hid (bel_tr HB0.out C9)
        clear hy C9
        go_wp2_with fail
        go_ret
        exact ⟨rfl, HB2.out⟩

set_option maxRecDepth 100000 in
theorem lifted (os : Os) (started : os.Started) (H : Type) (enc : TypeId × Value → H) :
    ReturnsInHanded {} Try.checked os 8 .any (Rows.fnBestYieldSpec.pre6 enc Try.prog Try.f8 Rows.fnBestYieldRow.domain false) (Rows.fnBestYieldSpec.post enc Try.prog Try.f8 false true false false) := by
  refine returnsInHanded_of_change (C := Try.checked) own started (by kernel_rfl) Try.func8
    (ChangeSpec.witness6 (enc := enc) (C := Try.checked) false ⟨#[], #[.slice none 0 0], []⟩ 8 (by kernel_rfl) (by kernel_rfl) (by kernel_rfl) (by kernel_rfl)) ?_
  intro W base args ds gs before hval0 hW hcnd _
  have hval : ∀ (j : Nat) t v, Try.f8.params[j]? = some t → args[j]? = some v → Value.okWide Try.prog W .any base t v := hval0
  have hW' := hW
  obtain ⟨p, q, hA0, hV, rfl, hfz, hnd⟩ := hW
  have hA : DataW.TrodAll enc Try.prog W 0 (fun _ => true) true Try.f8.params.toList args.toList ds p := hA0
  rw [Try.params8] at hA hval
  obtain ⟨v0, vs0, e0, es0, p0, q0, hargs, rfl, rfl, h0, r0⟩ := trodAll_cons hA
  obtain ⟨rfl, rfl, rfl⟩ := trodAll_nil r0
  obtain rfl : args = #[v0] := by cases args; simp_all
  obtain ⟨rfl, rfl⟩ := trodVars_none hV
  have k0 := h0
  have lt0 : ∀ x ∈ p0, x.block < W.heap.size := by obtain ⟨m, hm⟩ := k0; exact DataW.trod_lt m _ _ _ hm
  obtain ⟨a0, len0, cap0, rfl⟩ := okWide_slice Try.underlying39 (hval 0 39 v0 rfl rfl)
  obtain ⟨z0, w0⟩ : ∃ zs, IsRow .u8 W a0 len0 cap0 zs := by
    obtain ⟨fuel, hf⟩ := h0
    rcases open_ints Try.underlying39 Try.underlying5 (by kernel_rfl) hf with ⟨hcs, _⟩ | ⟨x, l, c, zs, hcs, _, hl, hm, hz, _, hcell, hwz⟩
    · simp [Value.cells] at hcs
      obtain ⟨rfl, rfl, rfl⟩ := hcs
      exact ⟨[], .inl ⟨rfl, rfl, rfl, rfl⟩⟩
    · simp [Value.cells] at hcs
      obtain ⟨rfl, rfl, rfl⟩ := hcs
      exact ⟨zs, .inr ⟨_, rfl, hl, hm, by simpa using hz, hcell, hwz⟩⟩
  clear hA0 hval0
  refine (walk a0 len0 cap0 z0 W w0).mono fun e W' ⟨he, bel⟩ => ?_
  subst he
  exact ⟨_, rfl, _, _, _, [], _, [], hW', trodAll_mk1 (shut_bool Try.underlying4 _), (trodAll_cons_mk (Below.trod laidOut (by kernel_rfl) (of_decide_eq_true (by kernel_rfl)) k0 bel lt0) trodAll_mk0), rfl, bel.frame _, fun h => by cases h⟩

theorem over : Rows.fnBestYieldRow.holds Try.pinned (OpenSpec.ofChange Rows.fnBestYieldSpec) :=
  OpenClaim.holds_of_wide 8 Try.f8 rfl rfl rfl rfl rfl rfl rfl ⟨rfl, rfl, rfl, rfl, rfl⟩ rfl rfl rfl rfl rfl (by kernel_rfl) Try.func8 (by kernel_rfl)
    (of_decide_eq_true (by kernel_rfl)) (by unfold Func.isWrapper; first | (rw [if_pos (by decide +kernel)]; kernel_rfl) | (rw [if_neg (by decide +kernel)]; exact ⟨rfl, rfl⟩))
    (fun os started H enc _ => lifted os started H enc)

end Go.Proofs.Ytigapnbpgbfbhac.fnBestYield
namespace Go.Proofs.Ytigapnbpgbfbhac
/-- the statement -/
theorem fnBestYield_holds : Rows.FnBestYieldSaid := fnBestYield.over
end Go.Proofs.Ytigapnbpgbfbhac
