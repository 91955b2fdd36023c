/- For every input the law answers true, and its argument reads afterwards as before: the last one gets what is left. No condition. -/
import Derived.Test.YtojkgabkiagjdacRows
import Derived.Test.YtojkgabkiagjdacDrawCo
import Derived.Test.YtojkgabkiagjdacLawCl
import Derived.Test.YtojkgabkiagjdacClmY
import Derived.Test.YtojkgabkiagjdacClmF
import Derived.WalkKit
import Derived.Deep.RegionHeld3
import Derived.Deep.RegionWith
import Derived.Deep.QuietTactic
import Derived.BigQuiet
import Derived.RegionTactic
import Derived.ChangeAlike
import Derived.BigRegion
import Derived.ProofKit
import Derived.OpenShut
import Derived.ShutString
import Derived.ChangeOld
import Derived.Below
import Derived.Lib.SmallJoins
namespace Go.Proofs.Ytojkgabkiagjdac.fnInTurnLast
open Go.ChangeShapes Go.WideShapes Go.ChangeAt Go.RowKit Go.Joins
open Go.ChangeMaps (open_string shut_string)
set_option linter.unusedVariables false
set_option linter.unusedSimpArgs false

theorem own : ownKnob Try.prog.godebug = none := by kernel_rfl
theorem laidOut : laidOutB Try.prog = true := by kernel_rfl

set_option maxRecDepth 100000 in
set_option maxHeartbeats 8000000 in
theorem walk (a0 : Option Addr) (len0 cap0 : Nat) (z0 : List Int) (w : World) (w0 : IsRow .u8 w a0 len0 cap0 z0) :
    Calls Try.prog 3 #[.slice a0 len0 cap0] w fun e w' => e = .returned (.bool true) ∧ Below w.heap.size w w' := by
  by_cases big : (1048576 : Int) < (len0 : Int)
  · go_enter Try.func3, Try.ntmps3
    go_wp2
    go_ret
    exact ⟨rfl, Below.refl _ _⟩
  go_enter Try.func3, Try.ntmps3
  go_wp2_with fail
  refine (drawInTurn a0 len0 cap0 z0 _ w0).mono ?_
  rintro e u1 ⟨n, b1, c1, cs, b2, c2, os, rfl, n0, n1, hl, hz, hol, hob, hcp, I1, I2, B⟩
  clear w0 big
  have hn : cs.length ≤ 1048576 := by omega
  have hn2 : os.length ≤ 1048576 := by omega
  have HOL := Lib.hid hol
  clear hz hob hol
  obtain ⟨V, hV⟩ : ∃ V, inV n cs os = V := ⟨_, rfl⟩
  have hVl : V.length ≤ 1048576 := by rw [← hV]; exact (by cases hb : itB n cs os with | false => (rw [inV_no hb]; simp) | true => (rw [inV_yes hb, turnV_len]; exact hn))
  have HF : Hid (∀  (W : World), (h1 : IsInts W b1 cs) → (h2 : IsInts W b2 os) → Calls Try.prog 12 #[.int .i64 n, .slice b1 cs.length c1, .slice b2 os.length c2] W (OutI W V)) := fun  W h1 h2 => by rw [← hV]; exact iInTurn n b1 b2 c1 c2 os.length cs os W h1 h2 hn rfl hn2
  have HS : Hid (∀  (W : World), (h1 : IsInts W b1 cs) → (h2 : IsInts W b2 os) → Calls Try.prog 14 #[.int .i64 n, .slice b1 cs.length c1, .slice b2 os.length c2] W (OutI W V)) := fun  W h1 h2 => by rw [← hV]; exact sInTurn n b1 b2 c1 c2 os.length cs os W h1 h2 hn rfl hn2 hcp
  have HQ : Hid (∀ (b : Option Addr) (b' : Option Addr) (c : Nat) (c' : Nat) (W : World), (h1 : IsInts W b V) → (h2 : IsInts W b' V) → Calls Try.prog 13 #[.slice b V.length c, .slice b' V.length c'] W (fun e w' => e = .returned (.bool true) ∧ Below W.heap.size W w')) := fun b b' c c' W h1 h2 => eqInts b b' c c' V W h1 h2 hVl
  by_cases hz : V.length = 0
  · have z1 : ((V.length : Int) == 0) = true := by rw [beq_iff_eq]; omega
    have z2 : (V.length : Int) = 0 := by omega
    clear hV hz
    go_wp2_with fail
    refine (HF.out _ I1 I2).mono ?_
    rintro e u2_ ⟨v3, rfl, O3, C_⟩
    obtain ⟨b3, c3, rfl, I3⟩ := O3.ints
    clear O3
    replace B := bel_tr B C_
    replace I1 := ints_below I1 C_
    replace I2 := ints_below I2 C_
    clear C_
    go_wp2_with fail
    refine (HS.out _ I1 I2).mono ?_
    rintro e u3_ ⟨v4, rfl, O4, C_⟩
    obtain ⟨b4, c4, rfl, I4⟩ := O4.ints
    clear O4
    replace B := bel_tr B C_
    replace I1 := ints_below I1 C_
    replace I2 := ints_below I2 C_
    replace I3 := ints_below I3 C_
    clear C_
    go_wp2_with fail
    refine (HQ.out _ _ _ _ _ I3 I4).mono ?_
    rintro e u4_ ⟨rfl, C_⟩
    replace B := bel_tr B C_
    replace I1 := ints_below I1 C_
    replace I2 := ints_below I2 C_
    replace I3 := ints_below I3 C_
    replace I4 := ints_below I4 C_
    clear C_
    go_wp2_with fail
    clear I4
    refine (HS.out _ I1 I2).mono ?_
    rintro e u5_ ⟨v5, rfl, O5, C_⟩
    obtain ⟨b5, c5, rfl, I5⟩ := O5.ints
    clear O5
    replace B := bel_tr B C_
    replace I1 := ints_below I1 C_
    replace I2 := ints_below I2 C_
    replace I3 := ints_below I3 C_
    clear C_
    go_wp2_with fail
    refine (HQ.out _ _ _ _ _ I3 I5).mono ?_
    rintro e u6_ ⟨rfl, C_⟩
    replace B := bel_tr B C_
    replace I1 := ints_below I1 C_
    replace I2 := ints_below I2 C_
    replace I3 := ints_below I3 C_
    replace I5 := ints_below I5 C_
    clear C_
    go_wp2_with fail
    go_ret
    exact ⟨rfl, B⟩
  have z1 : ((V.length : Int) == 0) = false := by rw [beq_eq_false_iff_ne]; omega
  have z2 : ¬ (V.length : Int) = 0 := by omega
  have hh : itB n cs os = true := by
    cases hb : itB n cs os with
    | false => exact absurd (by rw [← hV, inV_no hb]; rfl) hz
    | true => rfl
  have hVT : turnV n cs os = V := by rw [← hV, inV_yes hh]
  have hvc := (it_is hh).1
  obtain ⟨o1, o2, o3⟩ := (ordB_iff _ os).1 (it_is hh).2
  have hlv : V.length = cs.length := by rw [← hVT]; exact turnV_len _ _ _
  have hvi := vc_iff.1 hvc
  obtain ⟨k, hk⟩ : ∃ k : Nat, k + 1 = os.length := ⟨os.length - 1, by omega⟩
  have FL := turn_last hh hk
  rw [hVT] at FL
  obtain ⟨x0, x1⟩ := o3 _ (getD_mem (k := k) (by omega))
  obtain ⟨q, hq⟩ : ∃ q : Nat, os.getD k 0 = (q : Int) := ⟨(os.getD k 0).toNat, by omega⟩
  rw [hq, show ((q : Int)).toNat = q by omega] at FL
  have CA := fun (W : World) (h : IsInts W b1 cs) => iAtLeast n b1 c1 cs W h hn
  rw [leastV_yes hvc] at CA
  have lS := sureC_len n cs
  generalize sureC n cs = Q at *
  have HCA := Lib.hid CA
  have HLQ : Hid (q < cs.length ∧ V.length = cs.length ∧ Q.length = cs.length) := ⟨by omega, hlv, lS⟩
  have HFL := Lib.hid FL
  have HQK := Lib.hid (And.intro hq hk)
  have wk : IntKind.i64.wrap ((os.length : Int) - 1) = (k : Int) := by rw [IntKind.wrap_i64]; omega
  have wk2 : (os.length : Int) - 1 = (k : Int) := by omega
  have k0 : (0 : Int) ≤ (k : Int) := by omega
  have k1 : (k : Int) < (os.length : Int) := by omega
  have q0 : (0 : Int) ≤ (q : Int) := by omega
  have q1 : (q : Int) < (V.length : Int) := by omega
  have q2 : (q : Int) < (Q.length : Int) := by omega
  clear FL CA lS hV hVT hlv hh hvc hvi o1 o2 o3 hz hq hk x0 x1
  go_wp2_with fail
  refine (HF.out _ I1 I2).mono ?_
  rintro e u2_ ⟨v3, rfl, O3, C_⟩
  obtain ⟨b3, c3, rfl, I3⟩ := O3.ints
  clear O3
  replace B := bel_tr B C_
  replace I1 := ints_below I1 C_
  replace I2 := ints_below I2 C_
  clear C_
  go_wp2_with fail
  refine (HS.out _ I1 I2).mono ?_
  rintro e u3_ ⟨v4, rfl, O4, C_⟩
  obtain ⟨b4, c4, rfl, I4⟩ := O4.ints
  clear O4
  replace B := bel_tr B C_
  replace I1 := ints_below I1 C_
  replace I2 := ints_below I2 C_
  replace I3 := ints_below I3 C_
  clear C_
  go_wp2_with fail
  refine (HQ.out _ _ _ _ _ I3 I4).mono ?_
  rintro e u4_ ⟨rfl, C_⟩
  replace B := bel_tr B C_
  replace I1 := ints_below I1 C_
  replace I2 := ints_below I2 C_
  replace I3 := ints_below I3 C_
  replace I4 := ints_below I4 C_
  clear C_
  clear I4
  obtain ⟨go, oo, rfl, h2⟩ := ints_openL I2 (by omega)
  have x0 := h2 k (by have := HQK.out; omega)
  rw [HQK.out.1] at x0
  obtain ⟨gv, ov, rfl, h3⟩ := ints_openL I3 (by have := HLQ.out; omega)
  have x3 := h3 q (by have := HLQ.out; omega)
  have HV9 : Hid (Q.getD q 0 = V.getD q 0) := HFL.out.symm
  generalize V.getD q 0 = x at *
  have HI1 := Lib.hid I1
  have HB := Lib.hid B
  have HMK := Lib.hid (fun (W : World) (hW : Below u4_.heap.size u4_ W) => (⟨cell_nowL x3 hW, hW⟩ : W.cell? ⟨gv, ov + q, none⟩ = some (.int .i64 x) ∧ Below u4_.heap.size u4_ W))
  have BD0 : Below u4_.heap.size u4_ u4_.drew := (Below.refl _ u4_).drew
  clear h2 I2 h3 I3 I1 B HQ HS HF HFL
  go_wp2_with fail
  have BD0_ := BD0
  go_region_with (go_at_call_of 15 (Value.int .i64 n); refine (HCA.out _ (ints_below HI1.out BD0_)).mono ?_; rintro e u9 ⟨v9, rfl, O9, C9⟩; obtain ⟨b9, c9, rfl, I9⟩ := O9.ints; have BD : Below u4_.heap.size u4_ u9 := bel_tr BD0_ C9; obtain ⟨gq, oq, rfl, h9⟩ := ints_openL I9 (by have := HLQ.out; omega); have x9 := h9 q (by have := HLQ.out; omega); rw [HV9.out] at x9; have x3' := cell_nowL x3 BD; clear O9 C9 I9 h9)
  all_goals (
    have BE := ‹Below u4_.heap.size u4_ u9›
    go_wp2_with fail
    go_ret
    exact ⟨rfl, bel_tr HB.out BE⟩)

set_option maxRecDepth 100000 in
theorem lifted (os : Os) (started : os.Started) (H : Type) (enc : TypeId × Value → H) :
    ReturnsInHanded {} Try.checked os 3 .any (Rows.fnInTurnLastSpec.pre6 enc Try.prog Try.f3 Rows.fnInTurnLastRow.domain false) (Rows.fnInTurnLastSpec.post enc Try.prog Try.f3 false true false false) := by
  refine returnsInHanded_of_change (C := Try.checked) own started (by kernel_rfl) Try.func3
    (ChangeSpec.witness6 (enc := enc) (C := Try.checked) false ⟨#[], #[.slice none 0 0], []⟩ 8 (by kernel_rfl) (by kernel_rfl) (by kernel_rfl) (by kernel_rfl)) ?_
  intro W base args ds gs before hval0 hW hcnd _
  have hval : ∀ (j : Nat) t v, Try.f3.params[j]? = some t → args[j]? = some v → Value.okWide Try.prog W .any base t v := hval0
  have hW' := hW
  obtain ⟨p, q, hA0, hV, rfl, hfz, hnd⟩ := hW
  have hA : DataW.TrodAll enc Try.prog W 0 (fun _ => true) true Try.f3.params.toList args.toList ds p := hA0
  rw [Try.params3] at hA hval
  obtain ⟨v0, vs0, e0, es0, p0, q0, hargs, rfl, rfl, h0, r0⟩ := trodAll_cons hA
  obtain ⟨rfl, rfl, rfl⟩ := trodAll_nil r0
  obtain rfl : args = #[v0] := by cases args; simp_all
  obtain ⟨rfl, rfl⟩ := trodVars_none hV
  have k0 := h0
  have lt0 : ∀ x ∈ p0, x.block < W.heap.size := by obtain ⟨m, hm⟩ := k0; exact DataW.trod_lt m _ _ _ hm
  obtain ⟨a0, len0, cap0, rfl⟩ := okWide_slice Try.underlying22 (hval 0 22 v0 rfl rfl)
  obtain ⟨z0, w0⟩ : ∃ zs, IsRow .u8 W a0 len0 cap0 zs := by
    obtain ⟨fuel, hf⟩ := h0
    rcases open_ints Try.underlying22 Try.underlying5 (by kernel_rfl) hf with ⟨hcs, _⟩ | ⟨x, l, c, zs, hcs, _, hl, hm, hz, _, hcell, hwz⟩
    · simp [Value.cells] at hcs
      obtain ⟨rfl, rfl, rfl⟩ := hcs
      exact ⟨[], .inl ⟨rfl, rfl, rfl, rfl⟩⟩
    · simp [Value.cells] at hcs
      obtain ⟨rfl, rfl, rfl⟩ := hcs
      exact ⟨zs, .inr ⟨_, rfl, hl, hm, by simpa using hz, hcell, hwz⟩⟩
  clear hA0 hval0
  refine (walk a0 len0 cap0 z0 W w0).mono fun e W' ⟨he, bel⟩ => ?_
  subst he
  exact ⟨_, rfl, _, _, _, [], _, [], hW', trodAll_mk1 (shut_bool Try.underlying4 _), (trodAll_cons_mk (Below.trod laidOut (by kernel_rfl) (of_decide_eq_true (by kernel_rfl)) k0 bel lt0) trodAll_mk0), rfl, bel.frame _, fun h => by cases h⟩

theorem over : Rows.fnInTurnLastRow.holds Try.pinned (OpenSpec.ofChange Rows.fnInTurnLastSpec) :=
  OpenClaim.holds_of_wide 3 Try.f3 rfl rfl rfl rfl rfl rfl rfl ⟨rfl, rfl, rfl, rfl, rfl⟩ rfl rfl rfl rfl rfl (by kernel_rfl) Try.func3 (by kernel_rfl)
    (of_decide_eq_true (by kernel_rfl)) (by unfold Func.isWrapper; first | (rw [if_pos (by decide +kernel)]; kernel_rfl) | (rw [if_neg (by decide +kernel)]; exact ⟨rfl, rfl⟩))
    (fun os started H enc _ => lifted os started H enc)

end Go.Proofs.Ytojkgabkiagjdac.fnInTurnLast
namespace Go.Proofs.Ytojkgabkiagjdac
/-- the statement -/
theorem fnInTurnLast_holds : Rows.FnInTurnLastSaid := fnInTurnLast.over
end Go.Proofs.Ytojkgabkiagjdac
