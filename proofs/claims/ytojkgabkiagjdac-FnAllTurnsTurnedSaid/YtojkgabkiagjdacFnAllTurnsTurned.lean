/- For every input the law answers true, and its argument reads afterwards as before: what all orders give and lack is turned round. No condition. -/
import Derived.Test.YtojkgabkiagjdacRows
import Derived.Test.YtojkgabkiagjdacDrawCl
import Derived.Test.YtojkgabkiagjdacLawCl
import Derived.Test.YtojkgabkiagjdacClmZ
import Derived.Test.YtojkgabkiagjdacClmF
import Derived.WalkKit
import Derived.Deep.RegionHeld3
import Derived.Deep.QuietTactic
import Derived.BigQuiet
import Derived.RegionTactic
import Derived.ChangeAlike
import Derived.BigRegion
import Derived.ProofKit
import Derived.OpenShut
import Derived.ShutString
import Derived.ChangeOld
import Derived.Below
import Derived.Lib.SmallJoins
namespace Go.Proofs.Ytojkgabkiagjdac.fnAllTurnsTurned
open Go.ChangeShapes Go.WideShapes Go.ChangeAt Go.RowKit Go.Joins
open Go.ChangeMaps (open_string shut_string)
set_option linter.unusedVariables false
set_option linter.unusedSimpArgs false

theorem own : ownKnob Try.prog.godebug = none := by kernel_rfl
theorem laidOut : laidOutB Try.prog = true := by kernel_rfl

set_option maxRecDepth 100000 in
set_option maxHeartbeats 8000000 in
theorem walk (a0 : Option Addr) (len0 cap0 : Nat) (z0 : List Int) (w : World) (w0 : IsRow .u8 w a0 len0 cap0 z0) :
    Calls Try.prog 5 #[.slice a0 len0 cap0] w fun e w' => e = .returned (.bool true) ∧ Below w.heap.size w w' := by
  by_cases big : (1048576 : Int) < (len0 : Int)
  · go_enter Try.func5, Try.ntmps5
    go_wp2
    go_ret
    exact ⟨rfl, Below.refl _ _⟩
  go_enter Try.func5, Try.ntmps5
  go_wp2_with fail
  refine (drawAllTurns a0 len0 cap0 z0 _ w0).mono ?_
  rintro e u1 ⟨n, b1, c1, cs, rfl, n0, n1, hl, hz, I1, B⟩
  clear w0 big
  have hn : cs.length ≤ 1048576 := by omega
  have HZ := Lib.hid hz
  clear hz
  obtain ⟨V, hV⟩ : ∃ V, allV n cs = V := ⟨_, rfl⟩
  have hVl : V.length ≤ 1048576 := by rw [← hV]; exact (by cases hb : avB n cs with | false => (rw [allV_no hb]; simp) | true => (rw [allV_len hb]; exact hn))
  have HF : Hid (∀  (W : World), (h1 : IsInts W b1 cs) → Calls Try.prog 17 #[.int .i64 n, .slice b1 cs.length c1] W (OutI W V)) := fun  W h1 => by rw [← hV]; exact iAll n b1 c1 cs W h1 hn
  have HS : Hid (∀  (W : World), (h1 : IsInts W b1 cs) → Calls Try.prog 18 #[.int .i64 n, .slice b1 cs.length c1] W (OutI W V)) := fun  W h1 => by rw [← hV]; exact sAll n b1 c1 cs W h1 hn
  have HQ : Hid (∀ (b : Option Addr) (b' : Option Addr) (c : Nat) (c' : Nat) (W : World), (h1 : IsInts W b V) → (h2 : IsInts W b' V) → Calls Try.prog 13 #[.slice b V.length c, .slice b' V.length c'] W (fun e w' => e = .returned (.bool true) ∧ Below W.heap.size W w')) := fun b b' c c' W h1 h2 => eqInts b b' c c' V W h1 h2 hVl
  by_cases hz : V.length = 0
  · have z1 : ((V.length : Int) == 0) = true := by rw [beq_iff_eq]; omega
    have z2 : (V.length : Int) = 0 := by omega
    clear hV hz
    go_wp2_with fail
    refine (HF.out _ I1).mono ?_
    rintro e u2_ ⟨v2, rfl, O2, C_⟩
    obtain ⟨b2, c2, rfl, I2⟩ := O2.ints
    clear O2
    replace B := bel_tr B C_
    replace I1 := ints_below I1 C_
    clear C_
    go_wp2_with fail
    refine (HS.out _ I1).mono ?_
    rintro e u3_ ⟨v3, rfl, O3, C_⟩
    obtain ⟨b3, c3, rfl, I3⟩ := O3.ints
    clear O3
    replace B := bel_tr B C_
    replace I1 := ints_below I1 C_
    replace I2 := ints_below I2 C_
    clear C_
    go_wp2_with fail
    refine (HQ.out _ _ _ _ _ I2 I3).mono ?_
    rintro e u4_ ⟨rfl, C_⟩
    replace B := bel_tr B C_
    replace I1 := ints_below I1 C_
    replace I2 := ints_below I2 C_
    replace I3 := ints_below I3 C_
    clear C_
    go_wp2_with fail
    clear I3
    refine (HS.out _ I1).mono ?_
    rintro e u5_ ⟨v4, rfl, O4, C_⟩
    obtain ⟨b4, c4, rfl, I4⟩ := O4.ints
    clear O4
    replace B := bel_tr B C_
    replace I1 := ints_below I1 C_
    replace I2 := ints_below I2 C_
    clear C_
    go_wp2_with fail
    refine (HQ.out _ _ _ _ _ I2 I4).mono ?_
    rintro e u6_ ⟨rfl, C_⟩
    replace B := bel_tr B C_
    replace I1 := ints_below I1 C_
    replace I2 := ints_below I2 C_
    replace I4 := ints_below I4 C_
    clear C_
    go_wp2_with fail
    go_ret
    exact ⟨rfl, B⟩
  have z1 : ((V.length : Int) == 0) = false := by rw [beq_eq_false_iff_ne]; omega
  have z2 : ¬ (V.length : Int) = 0 := by omega
  have hh : avB n cs = true := by
    cases hb : avB n cs with
    | false => exact absurd (show V.length = 0 by rw [← hV, allV_no hb]; rfl) (by omega)
    | true => rfl
  obtain ⟨hvc, h5⟩ := av_is hh
  have hVT : totV n cs = V := by rw [← hV, allV_yes hh]
  have hlv : V.length = cs.length := by rw [← hVT]; exact totV_len _ _
  have hvi := vc_iff.1 hvc
  have hs := vc_bd hvi.1 hvi.2.1
  have n6 : n ≤ 6000 := by omega
  have n0 : 0 ≤ n := hvi.2.2.1
  have HCB := Lib.hid (fun i (hi : i < cs.length) => allB_get hvi.1 hi)
  have hvb : ∀ i, i < cs.length → 0 ≤ V.getD i 0 ∧ V.getD i 0 ≤ 720000 := fun i hi => by
    rw [← hVT, totV_get n cs hi]
    have x1 := allS_bd (clF_nn hvi.1) (m := cs.length) n0 i
    have x2 := (facN_le cs.length h5).2
    have x3 : n * (facN cs.length : Int) ≤ 6000 * (facN cs.length : Int) := Int.mul_le_mul_of_nonneg_right n6 (by omega)
    omega
  have HVB := Lib.hid hvb
  have FT := fun i (hi : i < cs.length) => tot_turned hh hi
  rw [hVT] at FT
  have hh2 : avB (cs.sum - n) cs = true := av_yes (vc_turn hvc) h5
  have CO := fun (W : World) (h : IsInts W b1 cs) => iAll (cs.sum - n) b1 c1 cs W h hn
  rw [allV_yes hh2] at CO
  have lO := totV_len (cs.sum - n) cs
  have ob : ∀ i, i < cs.length → 0 ≤ (totV (cs.sum - n) cs).getD i 0 ∧ (totV (cs.sum - n) cs).getD i 0 ≤ 720000 := fun i hi => by
    rw [totV_get _ cs hi]
    have hv2 := (vc_iff.1 (vc_turn hvc)).2.2
    have x1 := allS_bd (clF_nn hvi.1) (m := cs.length) hv2.1 i
    have x2 := (facN_le cs.length h5).2
    have x3 : (cs.sum - n) * (facN cs.length : Int) ≤ 6000 * (facN cs.length : Int) := Int.mul_le_mul_of_nonneg_right (by omega) (by omega)
    omega
  generalize totV (cs.sum - n) cs = OO at *
  have CT := fun (W : World) (h : IsInts W b1 cs) => ltotal b1 c1 cs W h hn (all_bd hvi.1 (by omega))
  have wd : IntKind.i64.wrap (cs.sum - n) = cs.sum - n := by rw [IntKind.wrap_i64]; omega
  generalize cs.sum = T at *
  have HFT := Lib.hid FT
  have HOB := Lib.hid ob
  have HCO := Lib.hid CO
  have HCT := Lib.hid CT
  have HLV := Lib.hid hlv
  have HLO := Lib.hid lO
  have H5 := Lib.hid h5
  have H1M : Hid (1 ≤ cs.length) := by show _ ≤ _; omega
  have hf := facN_le cs.length h5
  have HF2 : Hid (1 ≤ facN cs.length ∧ facN cs.length ≤ 120) := hf
  clear FT CO CT ob lO hV hVT hlv hh hh2 hvc hvi hs hvb hz h5 hf
  go_wp2_with fail
  refine (HF.out _ I1).mono ?_
  rintro e u2_ ⟨v2, rfl, O2, C_⟩
  obtain ⟨b2, c2, rfl, I2⟩ := O2.ints
  clear O2
  replace B := bel_tr B C_
  replace I1 := ints_below I1 C_
  clear C_
  go_wp2_with fail
  refine (HS.out _ I1).mono ?_
  rintro e u3_ ⟨v3, rfl, O3, C_⟩
  obtain ⟨b3, c3, rfl, I3⟩ := O3.ints
  clear O3
  replace B := bel_tr B C_
  replace I1 := ints_below I1 C_
  replace I2 := ints_below I2 C_
  clear C_
  go_wp2_with fail
  refine (HQ.out _ _ _ _ _ I2 I3).mono ?_
  rintro e u4_ ⟨rfl, C_⟩
  replace B := bel_tr B C_
  replace I1 := ints_below I1 C_
  replace I2 := ints_below I2 C_
  replace I3 := ints_below I3 C_
  clear C_
  go_wp2_with fail
  clear I3
  have HI1 := Lib.hid I1
  have HI2 := Lib.hid I2
  have HB0 := Lib.hid B
  clear B I1 I2 HQ HS HF
  go_loopw [6, 7] (fun s i wr => ∃ k : Nat, 1 ≤ k ∧ k ≤ cs.length ∧ i = .int .i64 ((k : Int) + 1) ∧ s = .int .i64 (facN k : Int) ∧ wr = u4_) (fun _ i _ => cs.length + 1 - (intOf i).toNat)
  case atStart => exact ⟨1, Nat.le_refl _, H1M.out, by go_num, rfl, rfl⟩
  case round =>
    obtain ⟨k, k1_, k2_, rfl, rfl, rfl⟩ := hrel
    by_cases hlt : k < cs.length
    · have c0 : (k : Int) + 1 ≤ (cs.length : Int) := by omega
      have hfk := facN_le (k + 1) (by have := H5.out; omega)
      have HFK : Hid (facN (k + 1) = facN k * (k + 1)) := rfl
      have hfe : (facN k : Int) * ((k : Int) + 1) = (facN (k + 1) : Int) := by rw [HFK.out]; norm_cast
      have wf : IntKind.i64.wrap ((facN k : Int) * ((k : Int) + 1)) = (facN (k + 1) : Int) := by rw [hfe, IntKind.wrap_i64]; omega
      have k5 : k ≤ 5 := by have := H5.out; omega
      have wk : IntKind.i64.wrap ((k : Int) + 1 + 1) = (k : Int) + 1 + 1 := by rw [IntKind.wrap_i64]; omega
      have HWK : Hid ((k : Int) + 1 + 1 = ((k + 1 : Nat) : Int) + 1) := by show _ = _; omega
      obtain ⟨f2, hf2⟩ : ∃ f2, facN (k + 1) = f2 := ⟨_, rfl⟩
      have HF2 := Lib.hid hf2
      rw [hf2] at wf
      clear hfk hfe HFK hf2
      generalize facN k = f1 at *
      go_wp2_with fail
      go_roundw
      case rel => exact ⟨k + 1, by omega, by omega, by rw [HWK.out], by rw [HF2.out], by trivial⟩
      case measure => simp [intOf]; omega
    · obtain rfl : k = cs.length := by omega
      have c0 : ¬ (cs.length : Int) + 1 ≤ (cs.length : Int) := by omega
      obtain ⟨w4, hw4⟩ : ∃ W, W = wr := ⟨_, rfl⟩
      subst hw4
      obtain ⟨FF, hF⟩ : ∃ FF, facN cs.length = FF := ⟨_, rfl⟩
      rw [hF] at HF2 HFT
      have HFE := Lib.hid hF
      rw [hF]
      clear hF
      have B := HB0.out
      have I1 := HI1.out
      have I2 := HI2.out
      go_wp2_with fail
      refine (HCT.out _ I1).mono ?_
      rintro e w' ⟨rfl, rfl⟩
      go_wp2_with fail
      refine (HCO.out _ I1).mono ?_
      rintro e u31_ ⟨v9, rfl, O9, C_⟩
      obtain ⟨b9, c9, rfl, I9⟩ := O9.ints
      clear O9
      replace B := bel_tr B C_
      replace I1 := ints_below I1 C_
      replace I2 := ints_below I2 C_
      clear C_
      go_wp2_with fail
      have KI1 := Lib.hid I1
      have KI2 := Lib.hid I2
      have KI9 := Lib.hid I9
      have KB := Lib.hid B
      clear B I1 I2 I9
      go_loopw [9] (fun i wr => ∃ k : Nat, k ≤ V.length ∧ i = .int .i64 k ∧ Below u31_.heap.size u31_ wr) (fun i _ => V.length - (intOf i).toNat)
      case atStart => exact ⟨0, Nat.zero_le _, rfl, Below.refl _ _⟩
      case round =>
        obtain ⟨i, hi, rfl, hB⟩ := hrel
        by_cases hlt : i < V.length
        · have hic : i < cs.length := by have := HLV.out; omega
          have i0 : (0 : Int) ≤ (i : Int) := by omega
          have i1 : (i : Int) < (V.length : Int) := by omega
          have i2 : (i : Int) < (cs.length : Int) := by omega
          have i3 : (i : Int) < (OO.length : Int) := by have := HLO.out; omega
          obtain ⟨g1, o1, rfl, h1⟩ := ints_openL KI1.out (by omega)
          obtain ⟨g2, o2, rfl, h2⟩ := ints_openL KI2.out (by omega)
          obtain ⟨g9, o9, rfl, h9⟩ := ints_openL KI9.out (by omega)
          have x0 := cell_nowL (h1 i hic) hB
          have x1 := cell_nowL (h2 i hlt) hB
          have x2 := cell_nowL (h9 i (by omega)) hB
          have f1 := HFT.out i hic
          have q1 := HVB.out i hic
          have q2 := HOB.out i hic
          have q3 := HCB.out i hic
          clear h1 h2 h9 hic
          generalize V.getD i 0 = x at *
          generalize OO.getD i 0 = y at *
          generalize cs.getD i 0 = z at *
          have wz : IntKind.i64.wrap (y + x) = y + x := by rw [IntKind.wrap_i64]; omega
          have wm : IntKind.i64.wrap (z * (FF : Int)) = z * (FF : Int) := by
            rw [IntKind.wrap_i64]; omega
          have ne1 : (y + x != z * (FF : Int)) = false := by rw [f1]; simp
          have ne2 : ¬ y + x ≠ z * (FF : Int) := by omega
          rw [← f1] at wm ne1 ne2
          have HF1 := Lib.hid f1
          have wm2 : IntKind.i64.wrap (z * (FF : Int)) = y + x := by rw [← f1]; exact wm
          have ne3 : (y + x != y + x) = false := by simp
          clear f1 wm ne1 ne2
          go_wp2_with fail
          go_quiet (fail)
          go_wp2
          go_roundw
          case rel => exact ⟨i + 1, by omega, by go_num, below_drewN hB _⟩
          case measure => simp [intOf]; omega
        · obtain rfl : i = V.length := by omega
          have B := bel_tr KB.out hB
          go_wp2_with fail
          go_ret
          exact ⟨rfl, B⟩

set_option maxRecDepth 100000 in
theorem lifted (os : Os) (started : os.Started) (H : Type) (enc : TypeId × Value → H) :
    ReturnsInHanded {} Try.checked os 5 .any (Rows.fnAllTurnsTurnedSpec.pre6 enc Try.prog Try.f5 Rows.fnAllTurnsTurnedRow.domain false) (Rows.fnAllTurnsTurnedSpec.post enc Try.prog Try.f5 false true false false) := by
  refine returnsInHanded_of_change (C := Try.checked) own started (by kernel_rfl) Try.func5
    (ChangeSpec.witness6 (enc := enc) (C := Try.checked) false ⟨#[], #[.slice none 0 0], []⟩ 8 (by kernel_rfl) (by kernel_rfl) (by kernel_rfl) (by kernel_rfl)) ?_
  intro W base args ds gs before hval0 hW hcnd _
  have hval : ∀ (j : Nat) t v, Try.f5.params[j]? = some t → args[j]? = some v → Value.okWide Try.prog W .any base t v := hval0
  have hW' := hW
  obtain ⟨p, q, hA0, hV, rfl, hfz, hnd⟩ := hW
  have hA : DataW.TrodAll enc Try.prog W 0 (fun _ => true) true Try.f5.params.toList args.toList ds p := hA0
  rw [Try.params5] at hA hval
  obtain ⟨v0, vs0, e0, es0, p0, q0, hargs, rfl, rfl, h0, r0⟩ := trodAll_cons hA
  obtain ⟨rfl, rfl, rfl⟩ := trodAll_nil r0
  obtain rfl : args = #[v0] := by cases args; simp_all
  obtain ⟨rfl, rfl⟩ := trodVars_none hV
  have k0 := h0
  have lt0 : ∀ x ∈ p0, x.block < W.heap.size := by obtain ⟨m, hm⟩ := k0; exact DataW.trod_lt m _ _ _ hm
  obtain ⟨a0, len0, cap0, rfl⟩ := okWide_slice Try.underlying22 (hval 0 22 v0 rfl rfl)
  obtain ⟨z0, w0⟩ : ∃ zs, IsRow .u8 W a0 len0 cap0 zs := by
    obtain ⟨fuel, hf⟩ := h0
    rcases open_ints Try.underlying22 Try.underlying5 (by kernel_rfl) hf with ⟨hcs, _⟩ | ⟨x, l, c, zs, hcs, _, hl, hm, hz, _, hcell, hwz⟩
    · simp [Value.cells] at hcs
      obtain ⟨rfl, rfl, rfl⟩ := hcs
      exact ⟨[], .inl ⟨rfl, rfl, rfl, rfl⟩⟩
    · simp [Value.cells] at hcs
      obtain ⟨rfl, rfl, rfl⟩ := hcs
      exact ⟨zs, .inr ⟨_, rfl, hl, hm, by simpa using hz, hcell, hwz⟩⟩
  clear hA0 hval0
  refine (walk a0 len0 cap0 z0 W w0).mono fun e W' ⟨he, bel⟩ => ?_
  subst he
  exact ⟨_, rfl, _, _, _, [], _, [], hW', trodAll_mk1 (shut_bool Try.underlying4 _), (trodAll_cons_mk (Below.trod laidOut (by kernel_rfl) (of_decide_eq_true (by kernel_rfl)) k0 bel lt0) trodAll_mk0), rfl, bel.frame _, fun h => by cases h⟩

theorem over : Rows.fnAllTurnsTurnedRow.holds Try.pinned (OpenSpec.ofChange Rows.fnAllTurnsTurnedSpec) :=
  OpenClaim.holds_of_wide 5 Try.f5 rfl rfl rfl rfl rfl rfl rfl ⟨rfl, rfl, rfl, rfl, rfl⟩ rfl rfl rfl rfl rfl (by kernel_rfl) Try.func5 (by kernel_rfl)
    (of_decide_eq_true (by kernel_rfl)) (by unfold Func.isWrapper; first | (rw [if_pos (by decide +kernel)]; kernel_rfl) | (rw [if_neg (by decide +kernel)]; exact ⟨rfl, rfl⟩))
    (fun os started H enc _ => lifted os started H enc)

end Go.Proofs.Ytojkgabkiagjdac.fnAllTurnsTurned
namespace Go.Proofs.Ytojkgabkiagjdac
/-- the statement -/
theorem fnAllTurnsTurned_holds : Rows.FnAllTurnsTurnedSaid := fnAllTurnsTurned.over
end Go.Proofs.Ytojkgabkiagjdac
