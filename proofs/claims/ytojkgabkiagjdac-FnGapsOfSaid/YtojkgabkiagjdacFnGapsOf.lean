/- For every input the law answers true, and its argument reads afterwards as before: equal numbers have no gaps. No condition. -/
import Derived.Test.YtojkgabkiagjdacRows
import Derived.Test.YtojkgabkiagjdacDrawCg
import Derived.Test.YtojkgabkiagjdacLawCl
import Derived.Test.YtojkgabkiagjdacClmX
import Derived.Test.YtojkgabkiagjdacClmF
import Derived.WalkKit
import Derived.Deep.RegionHeld3
import Derived.Deep.QuietTactic
import Derived.BigQuiet
import Derived.RegionTactic
import Derived.ChangeAlike
import Derived.BigRegion
import Derived.ProofKit
import Derived.OpenShut
import Derived.ShutString
import Derived.ChangeOld
import Derived.Below
import Derived.Lib.SmallJoins
namespace Go.Proofs.Ytojkgabkiagjdac.fnGapsOf
open Go.ChangeShapes Go.WideShapes Go.ChangeAt Go.RowKit Go.Joins
open Go.ChangeMaps (open_string shut_string)
set_option linter.unusedVariables false
set_option linter.unusedSimpArgs false

theorem own : ownKnob Try.prog.godebug = none := by kernel_rfl
theorem laidOut : laidOutB Try.prog = true := by kernel_rfl
/-- whether the first k numbers are the same -/
def sameB (zs : List Int) : Nat → Bool
  | 0 => true
  | k + 1 => sameB zs k && (zs.getD k 0 == zs.getD 0 0)
theorem same_iff (zs : List Int) : ∀ k, sameB zs k = true ↔ ∀ i, i < k → zs.getD i 0 = zs.getD 0 0 := by
  intro k
  induction k with
  | zero => exact ⟨fun _ i hi => absurd hi (Nat.not_lt_zero i), fun _ => rfl⟩
  | succ k ih =>
    show (sameB zs k && (zs.getD k 0 == zs.getD 0 0)) = true ↔ _
    rw [Bool.and_eq_true, ih, beq_iff_eq]
    constructor
    · rintro ⟨a, b⟩ i hi
      by_cases e : i = k
      · subst e; exact b
      · exact a i (by omega)
    · intro h; exact ⟨fun i hi => h i (by omega), h k (by omega)⟩

set_option maxRecDepth 100000 in
set_option maxHeartbeats 8000000 in
theorem walk (a0 : Option Addr) (len0 cap0 : Nat) (z0 : List Int) (w : World) (w0 : IsRow .u8 w a0 len0 cap0 z0) :
    Calls Try.prog 9 #[.slice a0 len0 cap0] w fun e w' => e = .returned (.bool true) ∧ Below w.heap.size w w' := by
  by_cases big : (1048576 : Int) < (len0 : Int)
  · go_enter Try.func9, Try.ntmps9
    go_wp2
    go_ret
    exact ⟨rfl, Below.refl _ _⟩
  go_enter Try.func9, Try.ntmps9
  go_wp2_with fail
  refine (drawGapsOf a0 len0 cap0 z0 _ w0).mono ?_
  rintro e u1 ⟨b1, c1, cs, rfl, hl, hz, I1, B⟩
  clear w0 big
  have hn : cs.length ≤ 1048576 := by omega
  clear hz
  obtain ⟨G, hG⟩ : ∃ G, gapV cs = G := ⟨_, rfl⟩
  have HI : Hid (∀ (W : World), IsInts W b1 cs → Calls Try.prog 31 #[.slice b1 cs.length c1] W fun e w' => e = .returned (.int .i64 G) ∧ Below W.heap.size W w') := fun W h => by rw [← hG]; exact iGaps b1 c1 cs W h hn
  have HS : Hid (∀ (W : World), IsInts W b1 cs → Calls Try.prog 32 #[.slice b1 cs.length c1] W fun e w' => e = .returned (.int .i64 G) ∧ Below W.heap.size W w') := fun W h => by rw [← hG]; exact sGaps b1 c1 cs W h hn
  cases hg : gpB cs with
  | false =>
    obtain rfl : G = -1 := by rw [← hG]; exact gapV_no hg
    clear hG hg
    go_wp2_with fail
    refine (HI.out _ I1).mono ?_
    rintro e u2_ ⟨rfl, C_⟩
    replace B := bel_tr B C_
    replace I1 := ints_below I1 C_
    clear C_
    go_wp2_with fail
    refine (HS.out _ I1).mono ?_
    rintro e u3_ ⟨rfl, C_⟩
    replace B := bel_tr B C_
    replace I1 := ints_below I1 C_
    clear C_
    go_wp2_with fail
    refine (HS.out _ I1).mono ?_
    rintro e u4_ ⟨rfl, C_⟩
    replace B := bel_tr B C_
    replace I1 := ints_below I1 C_
    clear C_
    go_wp2_with fail
    go_ret
    exact ⟨rfl, B⟩
  | true =>
  have hGz : G = gapZ cs := by rw [← hG]; exact gapV_yes hg
  have g0 : 0 ≤ G := by rw [hGz]; exact gapT_nonneg _ _
  have hsame := gap_same cs
  rw [← hGz] at hsame
  have hgr : gpB cs.reverse = true := by
    have := gp_iff.1 hg
    exact gp_iff.2 ⟨by rw [revZ_all]; exact this.1, by rw [List.length_reverse]; exact this.2⟩
  have hrv : gapV cs.reverse = G := by rw [gapV_yes hgr, gap_rev, hGz]
  have CR := fun (W : World) (h : IsInts W b1 cs) => lbackW b1 c1 cs W h hn
  have lR : cs.reverse.length = cs.length := List.length_reverse
  generalize cs.reverse = R at *
  have HR := Lib.hid CR
  have HGR : Hid (∀ (W : World) (b : Option Addr) (c : Nat), IsInts W b R → Calls Try.prog 31 #[.slice b R.length c] W fun e w' => e = .returned (.int .i64 G) ∧ Below W.heap.size W w') := fun W b c h => by
    have := iGaps b c R W h (by omega)
    rw [hrv] at this; exact this
  have e0 : decide (G < 0) = false := decide_eq_false (by omega)
  have e0' : ¬ G < 0 := by omega
  have HSM := Lib.hid hsame
  clear hG hGz hsame hgr hrv CR lR hg
  go_wp2_with fail
  refine (HI.out _ I1).mono ?_
  rintro e u2_ ⟨rfl, C_⟩
  replace B := bel_tr B C_
  replace I1 := ints_below I1 C_
  clear C_
  go_wp2_with fail
  refine (HS.out _ I1).mono ?_
  rintro e u3_ ⟨rfl, C_⟩
  replace B := bel_tr B C_
  replace I1 := ints_below I1 C_
  clear C_
  go_wp2_with fail
  have HI1 := Lib.hid I1
  have HB0 := Lib.hid B
  clear B I1 HI HS
  go_loopw [5, 6] (fun s i wr => ∃ k : Nat, k ≤ cs.length ∧ i = .int .i64 k ∧ s = .bool (sameB cs k) ∧ Below u3_.heap.size u3_ wr) (fun _ i _ => cs.length - (intOf i).toNat)
  case atStart => exact ⟨0, Nat.zero_le _, rfl, rfl, Below.refl _ _⟩
  case round =>
    obtain ⟨i, hi, rfl, rfl, hB⟩ := hrel
    by_cases hlt : i < cs.length
    · have i0 : (0 : Int) ≤ (i : Int) := by omega
      have i1 : (i : Int) < (cs.length : Int) := by omega
      have l0 : (0 : Int) < (cs.length : Int) := by omega
      obtain ⟨gc, oc, rfl, h1⟩ := ints_openL HI1.out (by omega)
      have x0 := cell_nowL (h1 i hlt) hB
      have x1 := cell_nowL (h1 0 (by omega)) hB
      rw [Nat.add_zero] at x1
      have HM1 : Hid (sameB cs (i + 1) = (sameB cs i && (cs.getD i 0 == cs.getD 0 0))) := rfl
      clear h1
      generalize cs.getD i 0 = x at *
      generalize cs.getD 0 0 = y at *
      cases hs : sameB cs i with
      | false =>
        have HM2 : Hid (sameB cs (i + 1) = false) := by show _ = _; rw [HM1.out, hs]; rfl
        clear HM1
        go_wp2_with fail
        go_quiet (fail)
        go_wp2
        go_roundw
        case rel => exact ⟨i + 1, by omega, by go_num, by rw [HM2.out], below_drewN hB _⟩
        case measure => simp [intOf]; omega
      | true =>
        by_cases hxy : x = y
        · have e1 : (x == y) = true := by rw [beq_iff_eq]; exact hxy
          have HM2 : Hid (sameB cs (i + 1) = true) := by show _ = _; rw [HM1.out, hs, e1]; rfl
          clear HM1 hxy
          go_wp2_with fail
          go_quiet (fail)
          go_wp2
          go_roundw
          case rel => exact ⟨i + 1, by omega, by go_num, by rw [HM2.out], below_drewN hB _⟩
          case measure => simp [intOf]; omega
        · have e1 : (x == y) = false := by rw [beq_eq_false_iff_ne]; exact hxy
          have HM2 : Hid (sameB cs (i + 1) = false) := by show _ = _; rw [HM1.out, hs, e1]; rfl
          clear HM1
          go_wp2_with fail
          go_quiet (fail)
          go_wp2
          go_roundw
          case rel => exact ⟨i + 1, by omega, by go_num, by rw [HM2.out], below_drewN hB _⟩
          case measure => simp [intOf]; omega
    · obtain rfl : i = cs.length := by omega
      have B := bel_tr HB0.out hB
      have I1 := ints_below HI1.out hB
      cases hs : sameB cs cs.length with
      | false =>
        have g1 : ¬ G = 0 := fun c => by
          have := (same_iff cs cs.length).2 (HSM.out.1 c)
          rw [hs] at this; cases this
        have g2 : (G == 0) = false := by rw [beq_eq_false_iff_ne]; exact g1
        go_wp2_with fail
        refine (HR.out _ I1).mono ?_
        rintro e u4_ ⟨v7, rfl, O7, C_⟩
        obtain ⟨b7, c7, rfl, I7⟩ := O7.ints
        clear O7
        replace B := bel_tr B C_
        replace I1 := ints_below I1 C_
        clear C_
        go_wp2_with fail
        refine (HGR.out _ _ _ I7).mono ?_
        rintro e u5_ ⟨rfl, C_⟩
        replace B := bel_tr B C_
        replace I1 := ints_below I1 C_
        replace I7 := ints_below I7 C_
        clear C_
        go_wp2_with fail
        go_ret
        exact ⟨rfl, B⟩
      | true =>
        have g1 : G = 0 := HSM.out.2 ((same_iff cs cs.length).1 hs)
        have g2 : (G == 0) = true := by rw [beq_iff_eq]; exact g1
        go_wp2_with fail
        refine (HR.out _ I1).mono ?_
        rintro e u4_ ⟨v7, rfl, O7, C_⟩
        obtain ⟨b7, c7, rfl, I7⟩ := O7.ints
        clear O7
        replace B := bel_tr B C_
        replace I1 := ints_below I1 C_
        clear C_
        go_wp2_with fail
        refine (HGR.out _ _ _ I7).mono ?_
        rintro e u5_ ⟨rfl, C_⟩
        replace B := bel_tr B C_
        replace I1 := ints_below I1 C_
        replace I7 := ints_below I7 C_
        clear C_
        go_wp2_with fail
        go_ret
        exact ⟨rfl, B⟩

set_option maxRecDepth 100000 in
theorem lifted (os : Os) (started : os.Started) (H : Type) (enc : TypeId × Value → H) :
    ReturnsInHanded {} Try.checked os 9 .any (Rows.fnGapsOfSpec.pre6 enc Try.prog Try.f9 Rows.fnGapsOfRow.domain false) (Rows.fnGapsOfSpec.post enc Try.prog Try.f9 false true false false) := by
  refine returnsInHanded_of_change (C := Try.checked) own started (by kernel_rfl) Try.func9
    (ChangeSpec.witness6 (enc := enc) (C := Try.checked) false ⟨#[], #[.slice none 0 0], []⟩ 8 (by kernel_rfl) (by kernel_rfl) (by kernel_rfl) (by kernel_rfl)) ?_
  intro W base args ds gs before hval0 hW hcnd _
  have hval : ∀ (j : Nat) t v, Try.f9.params[j]? = some t → args[j]? = some v → Value.okWide Try.prog W .any base t v := hval0
  have hW' := hW
  obtain ⟨p, q, hA0, hV, rfl, hfz, hnd⟩ := hW
  have hA : DataW.TrodAll enc Try.prog W 0 (fun _ => true) true Try.f9.params.toList args.toList ds p := hA0
  rw [Try.params9] at hA hval
  obtain ⟨v0, vs0, e0, es0, p0, q0, hargs, rfl, rfl, h0, r0⟩ := trodAll_cons hA
  obtain ⟨rfl, rfl, rfl⟩ := trodAll_nil r0
  obtain rfl : args = #[v0] := by cases args; simp_all
  obtain ⟨rfl, rfl⟩ := trodVars_none hV
  have k0 := h0
  have lt0 : ∀ x ∈ p0, x.block < W.heap.size := by obtain ⟨m, hm⟩ := k0; exact DataW.trod_lt m _ _ _ hm
  obtain ⟨a0, len0, cap0, rfl⟩ := okWide_slice Try.underlying22 (hval 0 22 v0 rfl rfl)
  obtain ⟨z0, w0⟩ : ∃ zs, IsRow .u8 W a0 len0 cap0 zs := by
    obtain ⟨fuel, hf⟩ := h0
    rcases open_ints Try.underlying22 Try.underlying5 (by kernel_rfl) hf with ⟨hcs, _⟩ | ⟨x, l, c, zs, hcs, _, hl, hm, hz, _, hcell, hwz⟩
    · simp [Value.cells] at hcs
      obtain ⟨rfl, rfl, rfl⟩ := hcs
      exact ⟨[], .inl ⟨rfl, rfl, rfl, rfl⟩⟩
    · simp [Value.cells] at hcs
      obtain ⟨rfl, rfl, rfl⟩ := hcs
      exact ⟨zs, .inr ⟨_, rfl, hl, hm, by simpa using hz, hcell, hwz⟩⟩
  clear hA0 hval0
  refine (walk a0 len0 cap0 z0 W w0).mono fun e W' ⟨he, bel⟩ => ?_
  subst he
  exact ⟨_, rfl, _, _, _, [], _, [], hW', trodAll_mk1 (shut_bool Try.underlying4 _), (trodAll_cons_mk (Below.trod laidOut (by kernel_rfl) (of_decide_eq_true (by kernel_rfl)) k0 bel lt0) trodAll_mk0), rfl, bel.frame _, fun h => by cases h⟩

theorem over : Rows.fnGapsOfRow.holds Try.pinned (OpenSpec.ofChange Rows.fnGapsOfSpec) :=
  OpenClaim.holds_of_wide 9 Try.f9 rfl rfl rfl rfl rfl rfl rfl ⟨rfl, rfl, rfl, rfl, rfl⟩ rfl rfl rfl rfl rfl (by kernel_rfl) Try.func9 (by kernel_rfl)
    (of_decide_eq_true (by kernel_rfl)) (by unfold Func.isWrapper; first | (rw [if_pos (by decide +kernel)]; kernel_rfl) | (rw [if_neg (by decide +kernel)]; exact ⟨rfl, rfl⟩))
    (fun os started H enc _ => lifted os started H enc)

end Go.Proofs.Ytojkgabkiagjdac.fnGapsOf
namespace Go.Proofs.Ytojkgabkiagjdac
/-- the statement -/
theorem fnGapsOf_holds : Rows.FnGapsOfSaid := fnGapsOf.over
end Go.Proofs.Ytojkgabkiagjdac
