/- For every input the law answers true, and its argument reads afterwards as before: two who contest share what is contested. No condition. -/
import Derived.Test.YtojkgabkiagjdabRows
import Derived.Test.YtojkgabkiagjdabDrawCl
import Derived.Test.YtojkgabkiagjdabLawCl
import Derived.Test.YtojkgabkiagjdabClmT
import Derived.Test.YtojkgabkiagjdabClmF
import Derived.WalkKit
import Derived.Deep.RegionHeld3
import Derived.Deep.QuietTactic
import Derived.BigQuiet
import Derived.RegionTactic
import Derived.ChangeAlike
import Derived.BigRegion
import Derived.ProofKit
import Derived.OpenShut
import Derived.ShutString
import Derived.ChangeOld
import Derived.Below
import Derived.Lib.SmallJoins
namespace Go.Proofs.Ytojkgabkiagjdab.fnHalfFirstTwo
open Go.ChangeShapes Go.WideShapes Go.ChangeAt Go.RowKit Go.Joins
open Go.ChangeMaps (open_string shut_string)
set_option linter.unusedVariables false
set_option linter.unusedSimpArgs false

theorem own : ownKnob Try.prog.godebug = none := by kernel_rfl
theorem laidOut : laidOutB Try.prog = true := by kernel_rfl

set_option maxRecDepth 100000 in
set_option maxHeartbeats 8000000 in
theorem walk (a0 : Option Addr) (len0 cap0 : Nat) (z0 : List Int) (w : World) (w0 : IsRow .u8 w a0 len0 cap0 z0) :
    Calls Try.prog 11 #[.slice a0 len0 cap0] w fun e w' => e = .returned (.bool true) ∧ Below w.heap.size w w' := by
  by_cases big : (1048576 : Int) < (len0 : Int)
  · go_enter Try.func11, Try.ntmps11
    go_wp2
    go_ret
    exact ⟨rfl, Below.refl _ _⟩
  go_enter Try.func11, Try.ntmps11
  go_wp2_with fail
  refine (drawHalfFirst a0 len0 cap0 z0 _ w0).mono ?_
  rintro e u1 ⟨n, b1, c1, cs, rfl, n0, n1, hl, hz, I1, B⟩
  clear w0 big
  have hn : cs.length ≤ 1048576 := by omega
  have HZ := Lib.hid hz
  clear hz
  obtain ⟨V, hV⟩ : ∃ V, halfV n cs = V := ⟨_, rfl⟩
  have hVl : V.length ≤ 1048576 := by rw [← hV]; exact (by cases hb : hfB n cs with | false => (rw [half_no hb]; simp) | true => (rw [half_len hb]; exact hn))
  have HF : Hid (∀  (W : World), (h1 : IsInts W b1 cs) → Calls Try.prog 32 #[.int .i64 n, .slice b1 cs.length c1] W (OutI W V)) := fun  W h1 => by rw [← hV]; exact iHalf n b1 c1 cs W h1 hn
  have HS : Hid (∀  (W : World), (h1 : IsInts W b1 cs) → Calls Try.prog 33 #[.int .i64 n, .slice b1 cs.length c1] W (OutI W V)) := fun  W h1 => by rw [← hV]; exact sHalf n b1 c1 cs W h1 hn
  have HQ : Hid (∀ (b : Option Addr) (b' : Option Addr) (c : Nat) (c' : Nat) (W : World), (h1 : IsInts W b V) → (h2 : IsInts W b' V) → Calls Try.prog 19 #[.slice b V.length c, .slice b' V.length c'] W (fun e w' => e = .returned (.bool true) ∧ Below W.heap.size W w')) := fun b b' c c' W h1 h2 => eqInts b b' c c' V W h1 h2 hVl
  by_cases hz : ¬ V.length = 2
  · have z1 : ((V.length : Int) != 2) = true := by simp; omega
    have z2 : ¬ (V.length : Int) = 2 := by omega
    clear hV hz
    go_wp2_with fail
    refine (HF.out _ I1).mono ?_
    rintro e u2_ ⟨v2, rfl, O2, C_⟩
    obtain ⟨b2, c2, rfl, I2⟩ := O2.ints
    clear O2
    replace B := bel_tr B C_
    replace I1 := ints_below I1 C_
    clear C_
    go_wp2_with fail
    refine (HS.out _ I1).mono ?_
    rintro e u3_ ⟨v3, rfl, O3, C_⟩
    obtain ⟨b3, c3, rfl, I3⟩ := O3.ints
    clear O3
    replace B := bel_tr B C_
    replace I1 := ints_below I1 C_
    replace I2 := ints_below I2 C_
    clear C_
    go_wp2_with fail
    refine (HQ.out _ _ _ _ _ I2 I3).mono ?_
    rintro e u4_ ⟨rfl, C_⟩
    replace B := bel_tr B C_
    replace I1 := ints_below I1 C_
    replace I2 := ints_below I2 C_
    replace I3 := ints_below I3 C_
    clear C_
    go_wp2_with fail
    clear I3
    refine (HS.out _ I1).mono ?_
    rintro e u5_ ⟨v4, rfl, O4, C_⟩
    obtain ⟨b4, c4, rfl, I4⟩ := O4.ints
    clear O4
    replace B := bel_tr B C_
    replace I1 := ints_below I1 C_
    replace I2 := ints_below I2 C_
    clear C_
    go_wp2_with fail
    refine (HQ.out _ _ _ _ _ I2 I4).mono ?_
    rintro e u6_ ⟨rfl, C_⟩
    replace B := bel_tr B C_
    replace I1 := ints_below I1 C_
    replace I2 := ints_below I2 C_
    replace I4 := ints_below I4 C_
    clear C_
    go_wp2_with fail
    go_ret
    exact ⟨rfl, B⟩
  replace hz : V.length = 2 := by omega
  have z1 : ((V.length : Int) != 2) = false := by rw [hz]; rfl
  have z2 : (V.length : Int) = 2 := by omega
  have hh : hfB n cs = true := by
    cases hb : hfB n cs with
    | false => exact absurd (show V.length = 0 by rw [← hV, half_no hb]; rfl) (by omega)
    | true => rfl
  obtain ⟨hvc, _, hsum2, _, _⟩ := hf_is hh
  have hlv : V.length = cs.length := by rw [← hV]; exact half_len hh
  have hvi := vc_iff.1 hvc
  have hs := vc_bd hvi.1 hvi.2.1
  have HCB := Lib.hid (fun i (hi : i < cs.length) => allB_get hvi.1 hi)
  have CT := fun (W : World) (h : IsInts W b1 cs) => ltotal b1 c1 cs W h hn (all_bd hvi.1 (by omega))
  have F := half_good hh
  have h2 : cs.length = 2 := by omega
  have FT := fun i (hi : i < 2) => half_two hh h2 hi
  rw [hV] at F FT
  have CA := fun (W : World) (h : IsInts W b1 cs) => iAtLeast n b1 c1 cs W h hn
  rw [leastV_yes hvc] at CA
  have lS := sureC_len n cs
  have sb : ∀ i, i < cs.length → 0 ≤ (sureC n cs).getD i 0 ∧ (sureC n cs).getD i 0 ≤ 6000 := fun i hi => by
    rw [sureC_get n cs hi]
    have := HCB.out i hi
    omega
  generalize sureC n cs = Q at *
  have CQ := fun (b : Option Addr) (c : Nat) (W : World) (h : IsInts W b Q) => ltotal b c Q W h (by omega) (fun z hz => by
    obtain ⟨i, hi, rfl⟩ := List.getElem_of_mem hz
    have := sb i (by omega)
    rw [List.getD_eq_getElem?_getD, List.getElem?_eq_getElem hi] at this
    simp only [Option.getD_some] at this
    omega)
  have qs : 0 ≤ Q.sum ∧ Q.sum ≤ 12000 := by
    have : ∀ l : List Int, l.length = 2 → l.sum = l.getD 0 0 + l.getD 1 0 := fun l hl => by
      match l, hl with
      | [a, b], _ => show a + (b + 0) = a + b; omega
    have e := this Q (by omega)
    have := sb 0 (by omega)
    have := sb 1 (by omega)
    omega
  have n6 : n ≤ 6000 := by omega
  have n0 : 0 ≤ n := hvi.2.2.1
  have wq : IntKind.i64.wrap (n - Q.sum) = n - Q.sum := by rw [IntKind.wrap_i64]; omega
  generalize Q.sum = S at *
  have HFT := Lib.hid FT
  have HF0 := Lib.hid (fun i (hi : i < 2) => F.1.2.2 i (by omega))
  have HSB := Lib.hid (fun i (hi : i < 2) => sb i (by omega))
  have HLV : Hid (V.length = 2 ∧ Q.length = 2) := ⟨by omega, by omega⟩
  have HC2 := Lib.hid (fun i (hi : i < 2) => HCB.out i (by omega))
  have HCA := Lib.hid CA
  have HCQ := Lib.hid CQ
  clear F FT CA CQ lS sb hV hlv hh hvc hsum2 hvi hs CT hz h2 HCB
  go_wp2_with fail
  refine (HF.out _ I1).mono ?_
  rintro e u2_ ⟨v2, rfl, O2, C_⟩
  obtain ⟨b2, c2, rfl, I2⟩ := O2.ints
  clear O2
  replace B := bel_tr B C_
  replace I1 := ints_below I1 C_
  clear C_
  go_wp2_with fail
  refine (HS.out _ I1).mono ?_
  rintro e u3_ ⟨v3, rfl, O3, C_⟩
  obtain ⟨b3, c3, rfl, I3⟩ := O3.ints
  clear O3
  replace B := bel_tr B C_
  replace I1 := ints_below I1 C_
  replace I2 := ints_below I2 C_
  clear C_
  go_wp2_with fail
  refine (HQ.out _ _ _ _ _ I2 I3).mono ?_
  rintro e u4_ ⟨rfl, C_⟩
  replace B := bel_tr B C_
  replace I1 := ints_below I1 C_
  replace I2 := ints_below I2 C_
  replace I3 := ints_below I3 C_
  clear C_
  go_wp2_with fail
  clear I3
  refine (HCA.out _ I1).mono ?_
  rintro e u5_ ⟨v5, rfl, O5, C_⟩
  obtain ⟨b5, c5, rfl, I5⟩ := O5.ints
  clear O5
  replace B := bel_tr B C_
  replace I1 := ints_below I1 C_
  replace I2 := ints_below I2 C_
  clear C_
  go_wp2_with fail
  refine (HCQ.out _ _ _ I5).mono ?_
  rintro e w' ⟨rfl, rfl⟩
  go_wp2_with fail
  have HI2 := Lib.hid I2
  have HI5 := Lib.hid I5
  have HB0 := Lib.hid B
  clear B I1 I2 I5 HQ HS HF HCA HCQ
  go_loopw [8] (fun i wr => ∃ k : Nat, k ≤ 2 ∧ i = .int .i64 k ∧ Below u5_.heap.size u5_ wr) (fun i _ => 2 - (intOf i).toNat)
  case atStart => exact ⟨0, Nat.zero_le _, rfl, Below.refl _ _⟩
  case round =>
    obtain ⟨i, hi, rfl, hB⟩ := hrel
    by_cases hlt : i < 2
    · have i0 : (0 : Int) ≤ (i : Int) := by omega
      have i1 : (i : Int) < (V.length : Int) := by have := HLV.out; omega
      have i2 : (i : Int) < (Q.length : Int) := by have := HLV.out; omega
      have i3 : (i : Int) < 2 := by omega
      obtain ⟨g2, o2, rfl, h2⟩ := ints_openL HI2.out (by omega)
      obtain ⟨g5, o5, rfl, h5⟩ := ints_openL HI5.out (by omega)
      have x0 := cell_nowL (h2 i (by omega)) hB
      have x1 := cell_nowL (h5 i (by omega)) hB
      have b0 := HF0.out i hlt
      have b1 := HSB.out i hlt
      have b2 := HC2.out i hlt
      obtain ⟨f1, f2⟩ := HFT.out i hlt
      clear h5 h2
      generalize V.getD i 0 = x at *
      generalize Q.getD i 0 = y at *
      generalize cs.getD i 0 = z at *
      have w1_ : IntKind.i64.wrap (x - y) = x - y := by rw [IntKind.wrap_i64]; omega
      have w2_ : IntKind.i64.wrap (2 * (x - y)) = 2 * (x - y) := by rw [IntKind.wrap_i64]; omega
      have w3_ : IntKind.i64.wrap (n - S + 1) = n - S + 1 := by rw [IntKind.wrap_i64]; omega
      have w4_ : IntKind.i64.wrap (n - S - 1) = n - S - 1 := by rw [IntKind.wrap_i64]; omega
      have d1 : decide (n - S + 1 < 2 * (x - y)) = false := decide_eq_false (by omega)
      have d2 : ¬ n - S + 1 < 2 * (x - y) := by omega
      have d3 : decide (2 * (x - y) < n - S - 1) = false := decide_eq_false (by omega)
      have d4 : ¬ 2 * (x - y) < n - S - 1 := by omega
      clear f1 f2
      go_wp2_with fail
      go_quiet (fail)
      go_wp2
      go_roundw
      case rel => exact ⟨i + 1, by omega, by go_num, below_drewN hB _⟩
      case measure => simp [intOf]; omega
    · obtain rfl : i = 2 := by omega
      have B := bel_tr HB0.out hB
      have e2 : ((2 : Nat) : Int) = 2 := rfl
      go_wp2_with fail
      go_ret
      exact ⟨rfl, B⟩

set_option maxRecDepth 100000 in
theorem lifted (os : Os) (started : os.Started) (H : Type) (enc : TypeId × Value → H) :
    ReturnsInHanded {} Try.checked os 11 .any (Rows.fnHalfFirstTwoSpec.pre6 enc Try.prog Try.f11 Rows.fnHalfFirstTwoRow.domain false) (Rows.fnHalfFirstTwoSpec.post enc Try.prog Try.f11 false true false false) := by
  refine returnsInHanded_of_change (C := Try.checked) own started (by kernel_rfl) Try.func11
    (ChangeSpec.witness6 (enc := enc) (C := Try.checked) false ⟨#[], #[.slice none 0 0], []⟩ 8 (by kernel_rfl) (by kernel_rfl) (by kernel_rfl) (by kernel_rfl)) ?_
  intro W base args ds gs before hval0 hW hcnd _
  have hval : ∀ (j : Nat) t v, Try.f11.params[j]? = some t → args[j]? = some v → Value.okWide Try.prog W .any base t v := hval0
  have hW' := hW
  obtain ⟨p, q, hA0, hV, rfl, hfz, hnd⟩ := hW
  have hA : DataW.TrodAll enc Try.prog W 0 (fun _ => true) true Try.f11.params.toList args.toList ds p := hA0
  rw [Try.params11] at hA hval
  obtain ⟨v0, vs0, e0, es0, p0, q0, hargs, rfl, rfl, h0, r0⟩ := trodAll_cons hA
  obtain ⟨rfl, rfl, rfl⟩ := trodAll_nil r0
  obtain rfl : args = #[v0] := by cases args; simp_all
  obtain ⟨rfl, rfl⟩ := trodVars_none hV
  have k0 := h0
  have lt0 : ∀ x ∈ p0, x.block < W.heap.size := by obtain ⟨m, hm⟩ := k0; exact DataW.trod_lt m _ _ _ hm
  obtain ⟨a0, len0, cap0, rfl⟩ := okWide_slice Try.underlying22 (hval 0 22 v0 rfl rfl)
  obtain ⟨z0, w0⟩ : ∃ zs, IsRow .u8 W a0 len0 cap0 zs := by
    obtain ⟨fuel, hf⟩ := h0
    rcases open_ints Try.underlying22 Try.underlying5 (by kernel_rfl) hf with ⟨hcs, _⟩ | ⟨x, l, c, zs, hcs, _, hl, hm, hz, _, hcell, hwz⟩
    · simp [Value.cells] at hcs
      obtain ⟨rfl, rfl, rfl⟩ := hcs
      exact ⟨[], .inl ⟨rfl, rfl, rfl, rfl⟩⟩
    · simp [Value.cells] at hcs
      obtain ⟨rfl, rfl, rfl⟩ := hcs
      exact ⟨zs, .inr ⟨_, rfl, hl, hm, by simpa using hz, hcell, hwz⟩⟩
  clear hA0 hval0
  refine (walk a0 len0 cap0 z0 W w0).mono fun e W' ⟨he, bel⟩ => ?_
  subst he
  exact ⟨_, rfl, _, _, _, [], _, [], hW', trodAll_mk1 (shut_bool Try.underlying4 _), (trodAll_cons_mk (Below.trod laidOut (by kernel_rfl) (of_decide_eq_true (by kernel_rfl)) k0 bel lt0) trodAll_mk0), rfl, bel.frame _, fun h => by cases h⟩

theorem over : Rows.fnHalfFirstTwoRow.holds Try.pinned (OpenSpec.ofChange Rows.fnHalfFirstTwoSpec) :=
  OpenClaim.holds_of_wide 11 Try.f11 rfl rfl rfl rfl rfl rfl rfl ⟨rfl, rfl, rfl, rfl, rfl⟩ rfl rfl rfl rfl rfl (by kernel_rfl) Try.func11 (by kernel_rfl)
    (of_decide_eq_true (by kernel_rfl)) (by unfold Func.isWrapper; first | (rw [if_pos (by decide +kernel)]; kernel_rfl) | (rw [if_neg (by decide +kernel)]; exact ⟨rfl, rfl⟩))
    (fun os started H enc _ => lifted os started H enc)

end Go.Proofs.Ytojkgabkiagjdab.fnHalfFirstTwo
namespace Go.Proofs.Ytojkgabkiagjdab
/-- the statement -/
theorem fnHalfFirstTwo_holds : Rows.FnHalfFirstTwoSaid := fnHalfFirstTwo.over
end Go.Proofs.Ytojkgabkiagjdab
