/- For every input the law answers true, and its argument reads afterwards as before: nobody gains much less than another one. No condition. -/
import Derived.Test.YtojkgabkiagjdabRows
import Derived.Test.YtojkgabkiagjdabDrawCl
import Derived.Test.YtojkgabkiagjdabLawCl
import Derived.Test.YtojkgabkiagjdabClmS
import Derived.Test.YtojkgabkiagjdabClmF
import Derived.WalkKit
import Derived.Deep.RegionHeld3
import Derived.Deep.QuietTactic
import Derived.BigQuiet
import Derived.RegionTactic
import Derived.ChangeAlike
import Derived.BigRegion
import Derived.ProofKit
import Derived.OpenShut
import Derived.ShutString
import Derived.ChangeOld
import Derived.Below
import Derived.Lib.SmallJoins
namespace Go.Proofs.Ytojkgabkiagjdab.fnEqualGains
open Go.ChangeShapes Go.WideShapes Go.ChangeAt Go.RowKit Go.Joins
open Go.ChangeMaps (open_string shut_string)
set_option linter.unusedVariables false
set_option linter.unusedSimpArgs false

theorem own : ownKnob Try.prog.godebug = none := by kernel_rfl
theorem laidOut : laidOutB Try.prog = true := by kernel_rfl

set_option maxRecDepth 100000 in
set_option maxHeartbeats 8000000 in
theorem walk (a0 : Option Addr) (len0 cap0 : Nat) (z0 : List Int) (w : World) (w0 : IsRow .u8 w a0 len0 cap0 z0) :
    Calls Try.prog 4 #[.slice a0 len0 cap0] w fun e w' => e = .returned (.bool true) ∧ Below w.heap.size w w' := by
  by_cases big : (1048576 : Int) < (len0 : Int)
  · go_enter Try.func4, Try.ntmps4
    go_wp2
    go_ret
    exact ⟨rfl, Below.refl _ _⟩
  go_enter Try.func4, Try.ntmps4
  go_wp2_with fail
  refine (drawEqualGains a0 len0 cap0 z0 _ w0).mono ?_
  rintro e u1 ⟨n, b1, c1, cs, rfl, n0, n1, hl, hz, I1, B⟩
  clear w0 big
  have hn : cs.length ≤ 1048576 := by omega
  have HZ := Lib.hid hz
  clear hz
  obtain ⟨V, hV⟩ : ∃ V, gainV n cs = V := ⟨_, rfl⟩
  have hVl : V.length ≤ 1048576 := by rw [← hV]; exact (by cases hb : vcB n cs with | false => (rw [gain_no hb]; simp) | true => (rw [gain_len hb]; exact hn))
  have HF : Hid (∀  (W : World), (h1 : IsInts W b1 cs) → Calls Try.prog 18 #[.int .i64 n, .slice b1 cs.length c1] W (OutI W V)) := fun  W h1 => by rw [← hV]; exact iGains n b1 c1 cs W h1 hn
  have HS : Hid (∀  (W : World), (h1 : IsInts W b1 cs) → Calls Try.prog 20 #[.int .i64 n, .slice b1 cs.length c1] W (OutI W V)) := fun  W h1 => by rw [← hV]; exact sGains n b1 c1 cs W h1 hn
  have HQ : Hid (∀ (b : Option Addr) (b' : Option Addr) (c : Nat) (c' : Nat) (W : World), (h1 : IsInts W b V) → (h2 : IsInts W b' V) → Calls Try.prog 19 #[.slice b V.length c, .slice b' V.length c'] W (fun e w' => e = .returned (.bool true) ∧ Below W.heap.size W w')) := fun b b' c c' W h1 h2 => eqInts b b' c c' V W h1 h2 hVl
  have CV := fun (W : World) (h : IsInts W b1 cs) => iVC n b1 c1 cs W h hn
  cases hv : vcB n cs with
  | false =>
    rw [hv] at CV
    have HC := Lib.hid CV
    clear CV hv hV
    go_wp2_with fail
    refine (HF.out _ I1).mono ?_
    rintro e u2_ ⟨v2, rfl, O2, C_⟩
    obtain ⟨b2, c2, rfl, I2⟩ := O2.ints
    clear O2
    replace B := bel_tr B C_
    replace I1 := ints_below I1 C_
    clear C_
    go_wp2_with fail
    refine (HS.out _ I1).mono ?_
    rintro e u3_ ⟨v3, rfl, O3, C_⟩
    obtain ⟨b3, c3, rfl, I3⟩ := O3.ints
    clear O3
    replace B := bel_tr B C_
    replace I1 := ints_below I1 C_
    replace I2 := ints_below I2 C_
    clear C_
    go_wp2_with fail
    refine (HQ.out _ _ _ _ _ I2 I3).mono ?_
    rintro e u4_ ⟨rfl, C_⟩
    replace B := bel_tr B C_
    replace I1 := ints_below I1 C_
    replace I2 := ints_below I2 C_
    replace I3 := ints_below I3 C_
    clear C_
    go_wp2_with fail
    clear I3
    refine (HC.out _ I1).mono ?_
    rintro e w' ⟨rfl, rfl⟩
    go_wp2_with fail
    refine (HS.out _ I1).mono ?_
    rintro e u5_ ⟨v4, rfl, O4, C_⟩
    obtain ⟨b4, c4, rfl, I4⟩ := O4.ints
    clear O4
    replace B := bel_tr B C_
    replace I1 := ints_below I1 C_
    replace I2 := ints_below I2 C_
    clear C_
    go_wp2_with fail
    refine (HQ.out _ _ _ _ _ I2 I4).mono ?_
    rintro e u6_ ⟨rfl, C_⟩
    replace B := bel_tr B C_
    replace I1 := ints_below I1 C_
    replace I2 := ints_below I2 C_
    replace I4 := ints_below I4 C_
    clear C_
    go_wp2_with fail
    go_ret
    exact ⟨rfl, B⟩
  | true =>
  rw [hv] at CV
  have HC := Lib.hid CV
  clear CV
  have F := gain_fair hv
  rw [hV] at F
  have hlv : V.length = cs.length := F.1
  have HCB := Lib.hid (fun i (hi : i < cs.length) => allB_get (vc_iff.1 hv).1 hi)
  have HFR := Lib.hid F
  have HLV := Lib.hid hlv
  have HG : Hid (∀ (W : World) (b : Option Addr) (c : Nat), IsInts W b1 cs → IsInts W b V → Calls Try.prog 21 #[.int .i64 n, .slice b1 cs.length c1, .slice b V.length c] W fun e w' => e = .returned (.bool true) ∧ W = w') := fun W b c h1 h2 => by
    have := iGifts n b1 b c1 c cs V W h1 h2 hn (by omega)
    rw [gg_yes hv ⟨F.1, F.2.1, F.2.2.1⟩] at this
    exact this
  clear F hV hv hlv
  go_wp2_with fail
  refine (HF.out _ I1).mono ?_
  rintro e u2_ ⟨v2, rfl, O2, C_⟩
  obtain ⟨b2, c2, rfl, I2⟩ := O2.ints
  clear O2
  replace B := bel_tr B C_
  replace I1 := ints_below I1 C_
  clear C_
  go_wp2_with fail
  refine (HS.out _ I1).mono ?_
  rintro e u3_ ⟨v3, rfl, O3, C_⟩
  obtain ⟨b3, c3, rfl, I3⟩ := O3.ints
  clear O3
  replace B := bel_tr B C_
  replace I1 := ints_below I1 C_
  replace I2 := ints_below I2 C_
  clear C_
  go_wp2_with fail
  refine (HQ.out _ _ _ _ _ I2 I3).mono ?_
  rintro e u4_ ⟨rfl, C_⟩
  replace B := bel_tr B C_
  replace I1 := ints_below I1 C_
  replace I2 := ints_below I2 C_
  replace I3 := ints_below I3 C_
  clear C_
  go_wp2_with fail
  clear I3
  refine (HC.out _ I1).mono ?_
  rintro e w' ⟨rfl, rfl⟩
  go_wp2_with fail
  clear HS HQ HC HF
  have HI1 := Lib.hid I1
  have HI2 := Lib.hid I2
  have HB0 := Lib.hid B
  clear B I1 I2
  go_loopw [6] (fun i wr => ∃ k : Nat, k ≤ V.length ∧ i = .int .i64 k ∧ Below u4_.heap.size u4_ wr) (fun i _ => V.length - (intOf i).toNat)
  case atStart => exact ⟨0, Nat.zero_le _, rfl, Below.refl _ _⟩
  case round =>
    obtain ⟨i, hi, rfl, hB⟩ := hrel
    by_cases hlt : i < V.length
    · have i0 : (0 : Int) ≤ (i : Int) := by omega
      have i1 : (i : Int) < (V.length : Int) := by omega
      go_wp2_with fail
      go_loopw [7] (fun j wi => ∃ k : Nat, k ≤ V.length ∧ j = .int .i64 k ∧ Below u4_.heap.size u4_ wi) (fun j _ => V.length - (intOf j).toNat)
      case atStart => exact ⟨0, Nat.zero_le _, rfl, hB⟩
      case round =>
        clear hB
        obtain ⟨j, hj, rfl, hB⟩ := hrel
        by_cases hjt : j < V.length
        · have j0 : (0 : Int) ≤ (j : Int) := by omega
          have j1 : (j : Int) < (V.length : Int) := by omega
          have hic : i < cs.length := by have := HLV.out; omega
          obtain ⟨g2, o2, rfl, h2⟩ := ints_openL HI2.out (by omega)
          obtain ⟨g1, o1, rfl, h1⟩ := ints_openL HI1.out (by omega)
          have x0 := cell_nowL (h2 i hlt) hB
          have x1 := cell_nowL (h1 i hic) hB
          have x2 := cell_nowL (h2 j hjt) hB
          have ic : (i : Int) < (cs.length : Int) := by omega
          have fr := HFR.out.2.2.2 i j hic (by have := HLV.out; omega)
          have b0 := HFR.out.2.2.1 i hic
          have b2 := HFR.out.2.2.1 j (by have := HLV.out; omega)
          have b1 := HCB.out i hic
          have b3 := HCB.out j (by have := HLV.out; omega)
          clear h1 h2 hic
          generalize V.getD i 0 = x at *
          generalize cs.getD i 0 = y at *
          generalize V.getD j 0 = z at *
          generalize cs.getD j 0 = yj at *
          have wz : IntKind.i64.wrap (z - 1) = z - 1 := by rw [IntKind.wrap_i64]; omega
          by_cases cxy : x < y
          · have e1 : decide (x < y) = true := decide_eq_true cxy
            have e2 : decide (x < z - 1) = false := decide_eq_false (by have := fr cxy; omega)
            have e3 : ¬ x < z - 1 := by have := fr cxy; omega
            clear fr
            go_wp2_with fail
            go_quiet (fail)
            go_wp2
            go_roundw
            case rel => exact ⟨j + 1, by omega, by go_num, below_drewN hB _⟩
            case measure => simp [intOf]; omega
          · have e1 : decide (x < y) = false := decide_eq_false cxy
            clear fr
            go_wp2_with fail
            go_quiet (fail)
            go_wp2
            go_roundw
            case rel => exact ⟨j + 1, by omega, by go_num, below_drewN hB _⟩
            case measure => simp [intOf]; omega
        · obtain rfl : j = V.length := by omega
          go_wp2_with fail
          go_roundw
          case rel => exact ⟨i + 1, by omega, by go_num, hB⟩
          case measure => simp [intOf]; omega
    · obtain rfl : i = V.length := by omega
      have B := bel_tr HB0.out hB
      have I1 := ints_below HI1.out hB
      have I2 := ints_below HI2.out hB
      go_wp2_with fail
      refine (HG.out _ _ _ I1 I2).mono ?_
      rintro e w' ⟨rfl, rfl⟩
      go_wp2_with fail
      go_ret
      exact ⟨rfl, B⟩

set_option maxRecDepth 100000 in
theorem lifted (os : Os) (started : os.Started) (H : Type) (enc : TypeId × Value → H) :
    ReturnsInHanded {} Try.checked os 4 .any (Rows.fnEqualGainsSpec.pre6 enc Try.prog Try.f4 Rows.fnEqualGainsRow.domain false) (Rows.fnEqualGainsSpec.post enc Try.prog Try.f4 false true false false) := by
  refine returnsInHanded_of_change (C := Try.checked) own started (by kernel_rfl) Try.func4
    (ChangeSpec.witness6 (enc := enc) (C := Try.checked) false ⟨#[], #[.slice none 0 0], []⟩ 8 (by kernel_rfl) (by kernel_rfl) (by kernel_rfl) (by kernel_rfl)) ?_
  intro W base args ds gs before hval0 hW hcnd _
  have hval : ∀ (j : Nat) t v, Try.f4.params[j]? = some t → args[j]? = some v → Value.okWide Try.prog W .any base t v := hval0
  have hW' := hW
  obtain ⟨p, q, hA0, hV, rfl, hfz, hnd⟩ := hW
  have hA : DataW.TrodAll enc Try.prog W 0 (fun _ => true) true Try.f4.params.toList args.toList ds p := hA0
  rw [Try.params4] at hA hval
  obtain ⟨v0, vs0, e0, es0, p0, q0, hargs, rfl, rfl, h0, r0⟩ := trodAll_cons hA
  obtain ⟨rfl, rfl, rfl⟩ := trodAll_nil r0
  obtain rfl : args = #[v0] := by cases args; simp_all
  obtain ⟨rfl, rfl⟩ := trodVars_none hV
  have k0 := h0
  have lt0 : ∀ x ∈ p0, x.block < W.heap.size := by obtain ⟨m, hm⟩ := k0; exact DataW.trod_lt m _ _ _ hm
  obtain ⟨a0, len0, cap0, rfl⟩ := okWide_slice Try.underlying22 (hval 0 22 v0 rfl rfl)
  obtain ⟨z0, w0⟩ : ∃ zs, IsRow .u8 W a0 len0 cap0 zs := by
    obtain ⟨fuel, hf⟩ := h0
    rcases open_ints Try.underlying22 Try.underlying5 (by kernel_rfl) hf with ⟨hcs, _⟩ | ⟨x, l, c, zs, hcs, _, hl, hm, hz, _, hcell, hwz⟩
    · simp [Value.cells] at hcs
      obtain ⟨rfl, rfl, rfl⟩ := hcs
      exact ⟨[], .inl ⟨rfl, rfl, rfl, rfl⟩⟩
    · simp [Value.cells] at hcs
      obtain ⟨rfl, rfl, rfl⟩ := hcs
      exact ⟨zs, .inr ⟨_, rfl, hl, hm, by simpa using hz, hcell, hwz⟩⟩
  clear hA0 hval0
  refine (walk a0 len0 cap0 z0 W w0).mono fun e W' ⟨he, bel⟩ => ?_
  subst he
  exact ⟨_, rfl, _, _, _, [], _, [], hW', trodAll_mk1 (shut_bool Try.underlying4 _), (trodAll_cons_mk (Below.trod laidOut (by kernel_rfl) (of_decide_eq_true (by kernel_rfl)) k0 bel lt0) trodAll_mk0), rfl, bel.frame _, fun h => by cases h⟩

theorem over : Rows.fnEqualGainsRow.holds Try.pinned (OpenSpec.ofChange Rows.fnEqualGainsSpec) :=
  OpenClaim.holds_of_wide 4 Try.f4 rfl rfl rfl rfl rfl rfl rfl ⟨rfl, rfl, rfl, rfl, rfl⟩ rfl rfl rfl rfl rfl (by kernel_rfl) Try.func4 (by kernel_rfl)
    (of_decide_eq_true (by kernel_rfl)) (by unfold Func.isWrapper; first | (rw [if_pos (by decide +kernel)]; kernel_rfl) | (rw [if_neg (by decide +kernel)]; exact ⟨rfl, rfl⟩))
    (fun os started H enc _ => lifted os started H enc)

end Go.Proofs.Ytojkgabkiagjdab.fnEqualGains
namespace Go.Proofs.Ytojkgabkiagjdab
/-- the statement -/
theorem fnEqualGains_holds : Rows.FnEqualGainsSaid := fnEqualGains.over
end Go.Proofs.Ytojkgabkiagjdab
