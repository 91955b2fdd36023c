/- For every input the law answers true, and its argument reads afterwards as before: shares of claims are claims. No condition. -/
import Derived.Test.YtojkgabkiagjdacRows
import Derived.Test.YtojkgabkiagjdacDrawCl
import Derived.Test.YtojkgabkiagjdacLawCl
import Derived.Test.YtojkgabkiagjdacClmW
import Derived.Test.YtojkgabkiagjdacClmF
import Derived.WalkKit
import Derived.Deep.RegionHeld3
import Derived.Deep.QuietTactic
import Derived.BigQuiet
import Derived.RegionTactic
import Derived.ChangeAlike
import Derived.BigRegion
import Derived.ProofKit
import Derived.OpenShut
import Derived.ShutString
import Derived.ChangeOld
import Derived.Below
import Derived.Lib.SmallJoins
namespace Go.Proofs.Ytojkgabkiagjdac.fnByShares
open Go.ChangeShapes Go.WideShapes Go.ChangeAt Go.RowKit Go.Joins
open Go.ChangeMaps (open_string shut_string)
set_option linter.unusedVariables false
set_option linter.unusedSimpArgs false

theorem own : ownKnob Try.prog.godebug = none := by kernel_rfl
theorem laidOut : laidOutB Try.prog = true := by kernel_rfl

set_option maxRecDepth 100000 in
set_option maxHeartbeats 8000000 in
theorem walk (a0 : Option Addr) (len0 cap0 : Nat) (z0 : List Int) (w : World) (w0 : IsRow .u8 w a0 len0 cap0 z0) :
    Calls Try.prog 8 #[.slice a0 len0 cap0] w fun e w' => e = .returned (.bool true) ∧ Below w.heap.size w w' := by
  by_cases big : (1048576 : Int) < (len0 : Int)
  · go_enter Try.func8, Try.ntmps8
    go_wp2
    go_ret
    exact ⟨rfl, Below.refl _ _⟩
  go_enter Try.func8, Try.ntmps8
  go_wp2_with fail
  refine (drawByShares a0 len0 cap0 z0 _ w0).mono ?_
  rintro e u1 ⟨n, b1, c1, cs, rfl, n0, n1, hl, hz, I1, B⟩
  clear w0 big
  have hn : cs.length ≤ 1048576 := by omega
  have HZ := Lib.hid hz
  clear hz
  obtain ⟨V, hV⟩ : ∃ V, shareV n cs = V := ⟨_, rfl⟩
  have hVl : V.length ≤ 1048576 := by rw [← hV]; exact (by cases hb : bsB n cs with | false => (rw [share_no hb]; simp) | true => (rw [share_len hb]; exact hn))
  have HF : Hid (∀  (W : World), (h1 : IsInts W b1 cs) → Calls Try.prog 27 #[.int .i64 n, .slice b1 cs.length c1] W (OutI W V)) := fun  W h1 => by rw [← hV]; exact iShares n b1 c1 cs W h1 hn
  have HS : Hid (∀  (W : World), (h1 : IsInts W b1 cs) → Calls Try.prog 28 #[.int .i64 n, .slice b1 cs.length c1] W (OutW W V)) := fun W h1 => by rw [← hV]; exact sShares n b1 c1 cs W h1 hn
  have HQ : Hid (∀ (b : Option Addr) (b' : Option Addr) (c : Nat) (c' : Nat) (W : World), (h1 : IsInts W b V) → (h2 : IsInts W b' V) → Calls Try.prog 13 #[.slice b V.length c, .slice b' V.length c'] W (fun e w' => e = .returned (.bool true) ∧ Below W.heap.size W w')) := fun b b' c c' W h1 h2 => eqInts b b' c c' V W h1 h2 hVl
  by_cases hz : V.length = 0
  · have z1 : ((V.length : Int) == 0) = true := by rw [beq_iff_eq]; omega
    have z2 : (V.length : Int) = 0 := by omega
    clear hV hz
    go_wp2_with fail
    refine (HF.out _ I1).mono ?_
    rintro e u2_ ⟨v2, rfl, O2, C_⟩
    obtain ⟨b2, c2, rfl, I2⟩ := O2.ints
    clear O2
    replace B := bel_tr B C_
    replace I1 := ints_below I1 C_
    clear C_
    go_wp2_with fail
    refine (HS.out _ I1).mono ?_
    rintro e u3_ ⟨b3, c3, rfl, I3, C_⟩
    replace B := bel_tr B C_
    replace I1 := ints_below I1 C_
    replace I2 := ints_below I2 C_
    clear C_
    go_wp2_with fail
    refine (HQ.out _ _ _ _ _ I2 I3).mono ?_
    rintro e u4_ ⟨rfl, C_⟩
    replace B := bel_tr B C_
    replace I1 := ints_below I1 C_
    replace I2 := ints_below I2 C_
    replace I3 := ints_below I3 C_
    clear C_
    go_wp2_with fail
    clear I3
    refine (HS.out _ I1).mono ?_
    rintro e u5_ ⟨b4, c4, rfl, I4, C_⟩
    replace B := bel_tr B C_
    replace I1 := ints_below I1 C_
    replace I2 := ints_below I2 C_
    clear C_
    go_wp2_with fail
    refine (HQ.out _ _ _ _ _ I2 I4).mono ?_
    rintro e u6_ ⟨rfl, C_⟩
    replace B := bel_tr B C_
    replace I1 := ints_below I1 C_
    replace I2 := ints_below I2 C_
    replace I4 := ints_below I4 C_
    clear C_
    go_wp2_with fail
    go_ret
    exact ⟨rfl, B⟩
  have z1 : ((V.length : Int) == 0) = false := by rw [beq_eq_false_iff_ne]; omega
  have z2 : ¬ (V.length : Int) = 0 := by omega
  have hh : bsB n cs = true := by
    cases hb : bsB n cs with
    | false => exact absurd (show V.length = 0 by rw [← hV, share_no hb]; rfl) (by omega)
    | true => rfl
  have hvc := (bs_is hh).1
  have h5 := (bs_is hh).2
  have hlv : V.length = cs.length := by rw [← hV]; exact share_len hh
  have hvi := vc_iff.1 hvc
  have hs := vc_bd hvi.1 hvi.2.1
  have n0 : 0 ≤ n := hvi.2.2.1
  have F := share_good hh
  have FQ : cs.sum ≠ 0 → ∀ i, i < cs.length → n * cs.getD i 0 / cs.sum ≤ V.getD i 0 := fun h0 i hi => by
    rw [← hV, share_yes hh, if_neg h0]
    have := (sr_each (share_cs hh h0) hi).1
    rwa [qs_get n cs hi] at this
  rw [hV] at F
  have HCB := Lib.hid (fun i (hi : i < cs.length) => allB_get hvi.1 hi)
  have CT := fun (W : World) (h : IsInts W b1 cs) => ltotal b1 c1 cs W h hn (all_bd hvi.1 (by omega))
  have HGG : Hid (∀ (W : World) (b : Option Addr) (c : Nat), IsInts W b1 cs → IsInts W b V → Calls Try.prog 29 #[.int .i64 n, .slice b1 cs.length c1, .slice b V.length c] W fun e w' => e = .returned (.bool true) ∧ W = w') := fun W b c h1 h2 => by
    have := iGifts n b1 b c1 c cs V W h1 h2 hn (by omega)
    rw [gg_yes hvc F] at this
    exact this
  generalize cs.sum = T at *
  have HT := Lib.hid CT
  have HFQ := Lib.hid FQ
  have HLV := Lib.hid hlv
  have t0 : 0 ≤ T := hs.1
  clear F FQ hV hlv hh hvc hvi hs CT hz
  go_wp2_with fail
  refine (HF.out _ I1).mono ?_
  rintro e u2_ ⟨v2, rfl, O2, C_⟩
  obtain ⟨b2, c2, rfl, I2⟩ := O2.ints
  clear O2
  replace B := bel_tr B C_
  replace I1 := ints_below I1 C_
  clear C_
  go_wp2_with fail
  refine (HS.out _ I1).mono ?_
  rintro e u3_ ⟨b3, c3, rfl, I3, C_⟩
  replace B := bel_tr B C_
  replace I1 := ints_below I1 C_
  replace I2 := ints_below I2 C_
  clear C_
  go_wp2_with fail
  refine (HQ.out _ _ _ _ _ I2 I3).mono ?_
  rintro e u4_ ⟨rfl, C_⟩
  replace B := bel_tr B C_
  replace I1 := ints_below I1 C_
  replace I2 := ints_below I2 C_
  replace I3 := ints_below I3 C_
  clear C_
  go_wp2_with fail
  clear I3
  have HI1 := Lib.hid I1
  have HI2 := Lib.hid I2
  have HB0 := Lib.hid B
  clear B I1 I2 HQ HS HF
  go_loopw [6] (fun i wr => ∃ k : Nat, k ≤ V.length ∧ i = .int .i64 k ∧ Below u4_.heap.size u4_ wr) (fun i _ => V.length - (intOf i).toNat)
  case atStart => exact ⟨0, Nat.zero_le _, rfl, Below.refl _ _⟩
  case round =>
    obtain ⟨i, hi, rfl, hB⟩ := hrel
    by_cases hlt : i < V.length
    · have hic : i < cs.length := by have := HLV.out; omega
      have i0 : (0 : Int) ≤ (i : Int) := by omega
      have i1 : (i : Int) < (V.length : Int) := by omega
      have i2 : (i : Int) < (cs.length : Int) := by omega
      have KT := Lib.hid (fun (j : Nat) => Calls.quiet_of_same (w := wr) (n := j) ((HT.out _ (ints_below HI1.out (below_drewN hB j))).mono (fun _ _ h => ⟨h.1, h.2.symm⟩)))
      obtain ⟨g2, o2, rfl, h2⟩ := ints_openL HI2.out (by omega)
      obtain ⟨g1, o1, rfl, h1⟩ := ints_openL HI1.out (by omega)
      have x0 := cell_nowL (h2 i hlt) hB
      have x1 := cell_nowL (h1 i hic) hB
      have b1 := HCB.out i hic
      have fq := fun h0 => HFQ.out h0 i hic
      clear h1 h2 hic
      generalize V.getD i 0 = x at *
      generalize cs.getD i 0 = y at *
      by_cases cn1 : 0 < T
      · have d1 : decide (0 < T) = true := decide_eq_true cn1
        have m1 : 0 ≤ n * y := Int.mul_nonneg n0 b1.1
        have m2 : n * y ≤ 500 * y := Int.mul_le_mul_of_nonneg_right h5 b1.1
        have wm : IntKind.i64.wrap (n * y) = n * y := by rw [IntKind.wrap_i64]; omega
        have tq : (n * y).tdiv T = n * y / T := Int.tdiv_eq_ediv_of_nonneg m1
        have t9 := fq (by omega)
        have m3 : 0 ≤ n * y / T := Int.ediv_nonneg m1 (by omega)
        have m4 : n * y / T ≤ n * y := Int.ediv_le_self _ m1
        have wt : IntKind.i64.wrap (n * y / T) = n * y / T := by rw [IntKind.wrap_i64]; omega
        have z9 : (T == 0) = false := by rw [beq_eq_false_iff_ne]; omega
        have d2 : decide (x < n * y / T) = false := decide_eq_false (by omega)
        have d3 : ¬ x < n * y / T := by omega
        have HM := Lib.hid (And.intro m1 (And.intro m2 (And.intro m3 m4)))
        clear m1 m2 m3 m4 fq t9
        go_wp2_with fail
        go_quiet (first | (go_at_call_of 19 (Value.slice (some ⟨g1, o1, none⟩) cs.length c1); exact KT.out _))
        go_wp2
        go_roundw
        case rel => exact ⟨i + 1, by omega, by go_num, below_drewN hB _⟩
        case measure => simp [intOf]; omega
      · have d1 : decide (0 < T) = false := decide_eq_false cn1
        clear fq
        go_wp2_with fail
        go_quiet (first | (go_at_call_of 19 (Value.slice (some ⟨g1, o1, none⟩) cs.length c1); exact KT.out _))
        go_wp2
        go_roundw
        case rel => exact ⟨i + 1, by omega, by go_num, below_drewN hB _⟩
        case measure => simp [intOf]; omega
    · obtain rfl : i = V.length := by omega
      have B := bel_tr HB0.out hB
      have I1 := ints_below HI1.out hB
      have I2 := ints_below HI2.out hB
      go_wp2_with fail
      refine (HGG.out _ _ _ I1 I2).mono ?_
      rintro e w' ⟨rfl, rfl⟩
      go_wp2_with fail
      go_ret
      exact ⟨rfl, B⟩

set_option maxRecDepth 100000 in
theorem lifted (os : Os) (started : os.Started) (H : Type) (enc : TypeId × Value → H) :
    ReturnsInHanded {} Try.checked os 8 .any (Rows.fnBySharesSpec.pre6 enc Try.prog Try.f8 Rows.fnBySharesRow.domain false) (Rows.fnBySharesSpec.post enc Try.prog Try.f8 false true false false) := by
  refine returnsInHanded_of_change (C := Try.checked) own started (by kernel_rfl) Try.func8
    (ChangeSpec.witness6 (enc := enc) (C := Try.checked) false ⟨#[], #[.slice none 0 0], []⟩ 8 (by kernel_rfl) (by kernel_rfl) (by kernel_rfl) (by kernel_rfl)) ?_
  intro W base args ds gs before hval0 hW hcnd _
  have hval : ∀ (j : Nat) t v, Try.f8.params[j]? = some t → args[j]? = some v → Value.okWide Try.prog W .any base t v := hval0
  have hW' := hW
  obtain ⟨p, q, hA0, hV, rfl, hfz, hnd⟩ := hW
  have hA : DataW.TrodAll enc Try.prog W 0 (fun _ => true) true Try.f8.params.toList args.toList ds p := hA0
  rw [Try.params8] at hA hval
  obtain ⟨v0, vs0, e0, es0, p0, q0, hargs, rfl, rfl, h0, r0⟩ := trodAll_cons hA
  obtain ⟨rfl, rfl, rfl⟩ := trodAll_nil r0
  obtain rfl : args = #[v0] := by cases args; simp_all
  obtain ⟨rfl, rfl⟩ := trodVars_none hV
  have k0 := h0
  have lt0 : ∀ x ∈ p0, x.block < W.heap.size := by obtain ⟨m, hm⟩ := k0; exact DataW.trod_lt m _ _ _ hm
  obtain ⟨a0, len0, cap0, rfl⟩ := okWide_slice Try.underlying22 (hval 0 22 v0 rfl rfl)
  obtain ⟨z0, w0⟩ : ∃ zs, IsRow .u8 W a0 len0 cap0 zs := by
    obtain ⟨fuel, hf⟩ := h0
    rcases open_ints Try.underlying22 Try.underlying5 (by kernel_rfl) hf with ⟨hcs, _⟩ | ⟨x, l, c, zs, hcs, _, hl, hm, hz, _, hcell, hwz⟩
    · simp [Value.cells] at hcs
      obtain ⟨rfl, rfl, rfl⟩ := hcs
      exact ⟨[], .inl ⟨rfl, rfl, rfl, rfl⟩⟩
    · simp [Value.cells] at hcs
      obtain ⟨rfl, rfl, rfl⟩ := hcs
      exact ⟨zs, .inr ⟨_, rfl, hl, hm, by simpa using hz, hcell, hwz⟩⟩
  clear hA0 hval0
  refine (walk a0 len0 cap0 z0 W w0).mono fun e W' ⟨he, bel⟩ => ?_
  subst he
  exact ⟨_, rfl, _, _, _, [], _, [], hW', trodAll_mk1 (shut_bool Try.underlying4 _), (trodAll_cons_mk (Below.trod laidOut (by kernel_rfl) (of_decide_eq_true (by kernel_rfl)) k0 bel lt0) trodAll_mk0), rfl, bel.frame _, fun h => by cases h⟩

theorem over : Rows.fnBySharesRow.holds Try.pinned (OpenSpec.ofChange Rows.fnBySharesSpec) :=
  OpenClaim.holds_of_wide 8 Try.f8 rfl rfl rfl rfl rfl rfl rfl ⟨rfl, rfl, rfl, rfl, rfl⟩ rfl rfl rfl rfl rfl (by kernel_rfl) Try.func8 (by kernel_rfl)
    (of_decide_eq_true (by kernel_rfl)) (by unfold Func.isWrapper; first | (rw [if_pos (by decide +kernel)]; kernel_rfl) | (rw [if_neg (by decide +kernel)]; exact ⟨rfl, rfl⟩))
    (fun os started H enc _ => lifted os started H enc)

end Go.Proofs.Ytojkgabkiagjdac.fnByShares
namespace Go.Proofs.Ytojkgabkiagjdac
/-- the statement -/
theorem fnByShares_holds : Rows.FnBySharesSaid := fnByShares.over
end Go.Proofs.Ytojkgabkiagjdac
