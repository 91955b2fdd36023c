/- For every input the law answers true, and its argument reads afterwards as before: all orders give all units. No condition. -/
import Derived.Test.YtojkgabkiagjdacRows
import Derived.Test.YtojkgabkiagjdacDrawCl
import Derived.Test.YtojkgabkiagjdacLawCl
import Derived.Test.YtojkgabkiagjdacClmZ
import Derived.Test.YtojkgabkiagjdacClmF
import Derived.WalkKit
import Derived.Deep.RegionHeld3
import Derived.Deep.QuietTactic
import Derived.BigQuiet
import Derived.RegionTactic
import Derived.ChangeAlike
import Derived.BigRegion
import Derived.ProofKit
import Derived.OpenShut
import Derived.ShutString
import Derived.ChangeOld
import Derived.Below
import Derived.Lib.SmallJoins
namespace Go.Proofs.Ytojkgabkiagjdac.fnAllTurns
open Go.ChangeShapes Go.WideShapes Go.ChangeAt Go.RowKit Go.Joins
open Go.ChangeMaps (open_string shut_string)
set_option linter.unusedVariables false
set_option linter.unusedSimpArgs false

theorem own : ownKnob Try.prog.godebug = none := by kernel_rfl
theorem laidOut : laidOutB Try.prog = true := by kernel_rfl

set_option maxRecDepth 100000 in
set_option maxHeartbeats 8000000 in
theorem walk (a0 : Option Addr) (len0 cap0 : Nat) (z0 : List Int) (w : World) (w0 : IsRow .u8 w a0 len0 cap0 z0) :
    Calls Try.prog 4 #[.slice a0 len0 cap0] w fun e w' => e = .returned (.bool true) ∧ Below w.heap.size w w' := by
  by_cases big : (1048576 : Int) < (len0 : Int)
  · go_enter Try.func4, Try.ntmps4
    go_wp2
    go_ret
    exact ⟨rfl, Below.refl _ _⟩
  go_enter Try.func4, Try.ntmps4
  go_wp2_with fail
  refine (drawAllTurns a0 len0 cap0 z0 _ w0).mono ?_
  rintro e u1 ⟨n, b1, c1, cs, rfl, n0, n1, hl, hz, I1, B⟩
  clear w0 big
  have hn : cs.length ≤ 1048576 := by omega
  have HZ := Lib.hid hz
  clear hz
  obtain ⟨V, hV⟩ : ∃ V, allV n cs = V := ⟨_, rfl⟩
  have hVl : V.length ≤ 1048576 := by rw [← hV]; exact (by cases hb : avB n cs with | false => (rw [allV_no hb]; simp) | true => (rw [allV_len hb]; exact hn))
  have HF : Hid (∀  (W : World), (h1 : IsInts W b1 cs) → Calls Try.prog 17 #[.int .i64 n, .slice b1 cs.length c1] W (OutI W V)) := fun  W h1 => by rw [← hV]; exact iAll n b1 c1 cs W h1 hn
  have HS : Hid (∀  (W : World), (h1 : IsInts W b1 cs) → Calls Try.prog 18 #[.int .i64 n, .slice b1 cs.length c1] W (OutI W V)) := fun  W h1 => by rw [← hV]; exact sAll n b1 c1 cs W h1 hn
  have HQ : Hid (∀ (b : Option Addr) (b' : Option Addr) (c : Nat) (c' : Nat) (W : World), (h1 : IsInts W b V) → (h2 : IsInts W b' V) → Calls Try.prog 13 #[.slice b V.length c, .slice b' V.length c'] W (fun e w' => e = .returned (.bool true) ∧ Below W.heap.size W w')) := fun b b' c c' W h1 h2 => eqInts b b' c c' V W h1 h2 hVl
  by_cases hz : V.length = 0
  · have z1 : ((V.length : Int) == 0) = true := by rw [beq_iff_eq]; omega
    have z2 : (V.length : Int) = 0 := by omega
    clear hV hz
    go_wp2_with fail
    refine (HF.out _ I1).mono ?_
    rintro e u2_ ⟨v2, rfl, O2, C_⟩
    obtain ⟨b2, c2, rfl, I2⟩ := O2.ints
    clear O2
    replace B := bel_tr B C_
    replace I1 := ints_below I1 C_
    clear C_
    go_wp2_with fail
    refine (HS.out _ I1).mono ?_
    rintro e u3_ ⟨v3, rfl, O3, C_⟩
    obtain ⟨b3, c3, rfl, I3⟩ := O3.ints
    clear O3
    replace B := bel_tr B C_
    replace I1 := ints_below I1 C_
    replace I2 := ints_below I2 C_
    clear C_
    go_wp2_with fail
    refine (HQ.out _ _ _ _ _ I2 I3).mono ?_
    rintro e u4_ ⟨rfl, C_⟩
    replace B := bel_tr B C_
    replace I1 := ints_below I1 C_
    replace I2 := ints_below I2 C_
    replace I3 := ints_below I3 C_
    clear C_
    go_wp2_with fail
    clear I3
    refine (HS.out _ I1).mono ?_
    rintro e u5_ ⟨v4, rfl, O4, C_⟩
    obtain ⟨b4, c4, rfl, I4⟩ := O4.ints
    clear O4
    replace B := bel_tr B C_
    replace I1 := ints_below I1 C_
    replace I2 := ints_below I2 C_
    clear C_
    go_wp2_with fail
    refine (HQ.out _ _ _ _ _ I2 I4).mono ?_
    rintro e u6_ ⟨rfl, C_⟩
    replace B := bel_tr B C_
    replace I1 := ints_below I1 C_
    replace I2 := ints_below I2 C_
    replace I4 := ints_below I4 C_
    clear C_
    go_wp2_with fail
    go_ret
    exact ⟨rfl, B⟩
  have z1 : ((V.length : Int) == 0) = false := by rw [beq_eq_false_iff_ne]; omega
  have z2 : ¬ (V.length : Int) = 0 := by omega
  have hh : avB n cs = true := by
    cases hb : avB n cs with
    | false => exact absurd (show V.length = 0 by rw [← hV, allV_no hb]; rfl) (by omega)
    | true => rfl
  obtain ⟨hvc, h5⟩ := av_is hh
  have hVT : totV n cs = V := by rw [← hV, allV_yes hh]
  have hlv : V.length = cs.length := by rw [← hVT]; exact totV_len _ _
  have hvi := vc_iff.1 hvc
  have hs := vc_bd hvi.1 hvi.2.1
  have n6 : n ≤ 6000 := by omega
  have n0 : 0 ≤ n := hvi.2.2.1
  have HCB := Lib.hid (fun i (hi : i < cs.length) => allB_get hvi.1 hi)
  have hvb : ∀ i, i < cs.length → 0 ≤ V.getD i 0 ∧ V.getD i 0 ≤ 720000 := fun i hi => by
    rw [← hVT, totV_get n cs hi]
    have x1 := allS_bd (clF_nn hvi.1) (m := cs.length) n0 i
    have x2 := (facN_le cs.length h5).2
    have x3 : n * (facN cs.length : Int) ≤ 6000 * (facN cs.length : Int) := Int.mul_le_mul_of_nonneg_right n6 (by omega)
    omega
  have HVB := Lib.hid hvb
  have FM := fun i j (hi : i < cs.length) (hj : j < cs.length) (hc : cs.getD i 0 ≤ cs.getD j 0) => tot_mono hh hi hj hc
  have FS := tot_sum hh
  rw [hVT] at FM FS
  have CTV := fun (b : Option Addr) (c : Nat) (W : World) (h : IsInts W b V) => ltotal b c V W h (by omega) (fun z hz => by
    obtain ⟨i, hi, rfl⟩ := List.getElem_of_mem hz
    have := hvb i (by omega)
    rw [List.getD_eq_getElem?_getD, List.getElem?_eq_getElem hi] at this
    simp only [Option.getD_some] at this
    omega)
  rw [FS] at CTV
  have HFM := Lib.hid FM
  have HTV := Lib.hid CTV
  have HLV := Lib.hid hlv
  have H5 := Lib.hid h5
  have H1M : Hid (1 ≤ cs.length) := by show _ ≤ _; omega
  have hf := facN_le cs.length h5
  have wt : IntKind.i64.wrap (n * (facN cs.length : Int)) = n * (facN cs.length : Int) := by
    have x3 : n * (facN cs.length : Int) ≤ 6000 * (facN cs.length : Int) := Int.mul_le_mul_of_nonneg_right n6 (by omega)
    have x4 : 0 ≤ n * (facN cs.length : Int) := Int.mul_nonneg n0 (by omega)
    rw [IntKind.wrap_i64]; omega
  have HWT := Lib.hid wt
  clear FM FS CTV hV hVT hlv hh hvc hvi hs hvb hz h5 hf wt
  go_wp2_with fail
  refine (HF.out _ I1).mono ?_
  rintro e u2_ ⟨v2, rfl, O2, C_⟩
  obtain ⟨b2, c2, rfl, I2⟩ := O2.ints
  clear O2
  replace B := bel_tr B C_
  replace I1 := ints_below I1 C_
  clear C_
  go_wp2_with fail
  refine (HS.out _ I1).mono ?_
  rintro e u3_ ⟨v3, rfl, O3, C_⟩
  obtain ⟨b3, c3, rfl, I3⟩ := O3.ints
  clear O3
  replace B := bel_tr B C_
  replace I1 := ints_below I1 C_
  replace I2 := ints_below I2 C_
  clear C_
  go_wp2_with fail
  refine (HQ.out _ _ _ _ _ I2 I3).mono ?_
  rintro e u4_ ⟨rfl, C_⟩
  replace B := bel_tr B C_
  replace I1 := ints_below I1 C_
  replace I2 := ints_below I2 C_
  replace I3 := ints_below I3 C_
  clear C_
  go_wp2_with fail
  clear I3
  have HI1 := Lib.hid I1
  have HI2 := Lib.hid I2
  have HB0 := Lib.hid B
  clear B I1 I2 HQ HS HF
  go_loopw [6, 7] (fun s i wr => ∃ k : Nat, 1 ≤ k ∧ k ≤ cs.length ∧ i = .int .i64 ((k : Int) + 1) ∧ s = .int .i64 (facN k : Int) ∧ wr = u4_) (fun _ i _ => cs.length + 1 - (intOf i).toNat)
  case atStart => exact ⟨1, Nat.le_refl _, H1M.out, by go_num, rfl, rfl⟩
  case round =>
    obtain ⟨k, k1_, k2_, rfl, rfl, rfl⟩ := hrel
    by_cases hlt : k < cs.length
    · have c0 : (k : Int) + 1 ≤ (cs.length : Int) := by omega
      have hfk := facN_le (k + 1) (by have := H5.out; omega)
      have HFK : Hid (facN (k + 1) = facN k * (k + 1)) := rfl
      have hfe : (facN k : Int) * ((k : Int) + 1) = (facN (k + 1) : Int) := by rw [HFK.out]; norm_cast
      have wf : IntKind.i64.wrap ((facN k : Int) * ((k : Int) + 1)) = (facN (k + 1) : Int) := by rw [hfe, IntKind.wrap_i64]; omega
      have k5 : k ≤ 5 := by have := H5.out; omega
      have wk : IntKind.i64.wrap ((k : Int) + 1 + 1) = (k : Int) + 1 + 1 := by rw [IntKind.wrap_i64]; omega
      have HWK : Hid ((k : Int) + 1 + 1 = ((k + 1 : Nat) : Int) + 1) := by show _ = _; omega
      obtain ⟨f2, hf2⟩ : ∃ f2, facN (k + 1) = f2 := ⟨_, rfl⟩
      have HF2 := Lib.hid hf2
      rw [hf2] at wf
      clear hfk hfe HFK hf2
      generalize facN k = f1 at *
      go_wp2_with fail
      go_roundw
      case rel => exact ⟨k + 1, by omega, by omega, by rw [HWK.out], by rw [HF2.out], by trivial⟩
      case measure => simp [intOf]; omega
    · obtain rfl : k = cs.length := by omega
      have c0 : ¬ (cs.length : Int) + 1 ≤ (cs.length : Int) := by omega
      obtain ⟨w4, hw4⟩ : ∃ W, W = wr := ⟨_, rfl⟩
      subst hw4
      generalize hF : facN cs.length = FF at *
      have HFE := Lib.hid hF
      clear hF
      go_wp2_with fail
      go_loopw [8] (fun i wr => ∃ k : Nat, k ≤ V.length ∧ i = .int .i64 k ∧ Below w4.heap.size w4 wr) (fun i _ => V.length - (intOf i).toNat)
      case atStart => exact ⟨0, Nat.zero_le _, rfl, Below.refl _ _⟩
      case round =>
        obtain ⟨i, hi, rfl, hB⟩ := hrel
        by_cases hlt : i < V.length
        · have i0 : (0 : Int) ≤ (i : Int) := by omega
          have i1 : (i : Int) < (V.length : Int) := by omega
          go_wp2_with fail
          go_loopw [9] (fun j wi => ∃ k : Nat, k ≤ i ∧ j = .int .i64 k ∧ Below w4.heap.size w4 wi) (fun j _ => i - (intOf j).toNat)
          case atStart => exact ⟨0, Nat.zero_le _, rfl, hB⟩
          case round =>
            clear hB
            obtain ⟨j, hj, rfl, hB⟩ := hrel
            by_cases hjt : j < i
            · have j0 : (0 : Int) ≤ (j : Int) := by omega
              have j1 : (j : Int) < (i : Int) := by omega
              have hic : i < cs.length := by have := HLV.out; omega
              have hjv : j < V.length := by omega
              have hjc : j < cs.length := by have := HLV.out; omega
              obtain ⟨g2, o2, rfl, h2⟩ := ints_openL HI2.out (by omega)
              obtain ⟨g1, o1, rfl, h1⟩ := ints_openL HI1.out (by omega)
              have x0 := cell_nowL (h2 i hlt) hB
              have x1 := cell_nowL (h1 i hic) hB
              have x2 := cell_nowL (h2 j hjv) hB
              have x3 := cell_nowL (h1 j hjc) hB
              have ic : (i : Int) < (cs.length : Int) := by omega
              have jc : (j : Int) < (cs.length : Int) := by omega
              have jv : (j : Int) < (V.length : Int) := by omega
              have f1 := HFM.out i j hic hjc
              have f2 := HFM.out j i hjc hic
              clear h1 h2 hic hjc hjv
              generalize V.getD i 0 = x at *
              generalize cs.getD i 0 = y at *
              generalize V.getD j 0 = z at *
              generalize cs.getD j 0 = yj at *
              by_cases cxy : y = yj
              · have e1 : (y == yj) = true := by rw [beq_iff_eq]; exact cxy
                have ex : x = z := by have := f1 (by omega); have := f2 (by omega); omega
                have e2 : (x != z) = false := by rw [ex]; simp
                have e3 : decide (y < yj) = false := decide_eq_false (by omega)
                have e4 : ¬ y < yj := by omega
                have e5 : ¬ x ≠ z := by omega
                clear f1 f2
                go_wp2_with fail
                go_quiet (fail)
                go_wp2
                go_roundw
                case rel => exact ⟨j + 1, by omega, by go_num, below_drewN hB _⟩
                case measure => simp [intOf]; omega
              · have e1 : (y == yj) = false := by rw [beq_eq_false_iff_ne]; exact cxy
                by_cases cl : y < yj
                · have e3 : decide (y < yj) = true := decide_eq_true cl
                  have e4 : decide (z < x) = false := decide_eq_false (by have := f1 (by omega); omega)
                  have e5 : ¬ z < x := by have := f1 (by omega); omega
                  clear f1 f2
                  go_wp2_with fail
                  go_quiet (fail)
                  go_wp2
                  go_roundw
                  case rel => exact ⟨j + 1, by omega, by go_num, below_drewN hB _⟩
                  case measure => simp [intOf]; omega
                · have e3 : decide (y < yj) = false := decide_eq_false cl
                  clear f1 f2
                  go_wp2_with fail
                  go_quiet (fail)
                  go_wp2
                  go_roundw
                  case rel => exact ⟨j + 1, by omega, by go_num, below_drewN hB _⟩
                  case measure => simp [intOf]; omega
            · obtain rfl : j = i := by omega
              go_wp2_with fail
              go_roundw
              case rel => exact ⟨j + 1, by omega, by go_num, hB⟩
              case measure => simp [intOf]; omega
        · obtain rfl : i = V.length := by omega
          have B := bel_tr HB0.out hB
          have I2 := ints_below HI2.out hB
          have wt := HWT.out
          go_wp2_with fail
          refine (HTV.out _ _ _ I2).mono ?_
          rintro e w' ⟨rfl, rfl⟩
          go_wp2_with fail
          go_ret
          exact ⟨rfl, B⟩

set_option maxRecDepth 100000 in
theorem lifted (os : Os) (started : os.Started) (H : Type) (enc : TypeId × Value → H) :
    ReturnsInHanded {} Try.checked os 4 .any (Rows.fnAllTurnsSpec.pre6 enc Try.prog Try.f4 Rows.fnAllTurnsRow.domain false) (Rows.fnAllTurnsSpec.post enc Try.prog Try.f4 false true false false) := by
  refine returnsInHanded_of_change (C := Try.checked) own started (by kernel_rfl) Try.func4
    (ChangeSpec.witness6 (enc := enc) (C := Try.checked) false ⟨#[], #[.slice none 0 0], []⟩ 8 (by kernel_rfl) (by kernel_rfl) (by kernel_rfl) (by kernel_rfl)) ?_
  intro W base args ds gs before hval0 hW hcnd _
  have hval : ∀ (j : Nat) t v, Try.f4.params[j]? = some t → args[j]? = some v → Value.okWide Try.prog W .any base t v := hval0
  have hW' := hW
  obtain ⟨p, q, hA0, hV, rfl, hfz, hnd⟩ := hW
  have hA : DataW.TrodAll enc Try.prog W 0 (fun _ => true) true Try.f4.params.toList args.toList ds p := hA0
  rw [Try.params4] at hA hval
  obtain ⟨v0, vs0, e0, es0, p0, q0, hargs, rfl, rfl, h0, r0⟩ := trodAll_cons hA
  obtain ⟨rfl, rfl, rfl⟩ := trodAll_nil r0
  obtain rfl : args = #[v0] := by cases args; simp_all
  obtain ⟨rfl, rfl⟩ := trodVars_none hV
  have k0 := h0
  have lt0 : ∀ x ∈ p0, x.block < W.heap.size := by obtain ⟨m, hm⟩ := k0; exact DataW.trod_lt m _ _ _ hm
  obtain ⟨a0, len0, cap0, rfl⟩ := okWide_slice Try.underlying22 (hval 0 22 v0 rfl rfl)
  obtain ⟨z0, w0⟩ : ∃ zs, IsRow .u8 W a0 len0 cap0 zs := by
    obtain ⟨fuel, hf⟩ := h0
    rcases open_ints Try.underlying22 Try.underlying5 (by kernel_rfl) hf with ⟨hcs, _⟩ | ⟨x, l, c, zs, hcs, _, hl, hm, hz, _, hcell, hwz⟩
    · simp [Value.cells] at hcs
      obtain ⟨rfl, rfl, rfl⟩ := hcs
      exact ⟨[], .inl ⟨rfl, rfl, rfl, rfl⟩⟩
    · simp [Value.cells] at hcs
      obtain ⟨rfl, rfl, rfl⟩ := hcs
      exact ⟨zs, .inr ⟨_, rfl, hl, hm, by simpa using hz, hcell, hwz⟩⟩
  clear hA0 hval0
  refine (walk a0 len0 cap0 z0 W w0).mono fun e W' ⟨he, bel⟩ => ?_
  subst he
  exact ⟨_, rfl, _, _, _, [], _, [], hW', trodAll_mk1 (shut_bool Try.underlying4 _), (trodAll_cons_mk (Below.trod laidOut (by kernel_rfl) (of_decide_eq_true (by kernel_rfl)) k0 bel lt0) trodAll_mk0), rfl, bel.frame _, fun h => by cases h⟩

theorem over : Rows.fnAllTurnsRow.holds Try.pinned (OpenSpec.ofChange Rows.fnAllTurnsSpec) :=
  OpenClaim.holds_of_wide 4 Try.f4 rfl rfl rfl rfl rfl rfl rfl ⟨rfl, rfl, rfl, rfl, rfl⟩ rfl rfl rfl rfl rfl (by kernel_rfl) Try.func4 (by kernel_rfl)
    (of_decide_eq_true (by kernel_rfl)) (by unfold Func.isWrapper; first | (rw [if_pos (by decide +kernel)]; kernel_rfl) | (rw [if_neg (by decide +kernel)]; exact ⟨rfl, rfl⟩))
    (fun os started H enc _ => lifted os started H enc)

end Go.Proofs.Ytojkgabkiagjdac.fnAllTurns
namespace Go.Proofs.Ytojkgabkiagjdac
/-- the statement -/
theorem fnAllTurns_holds : Rows.FnAllTurnsSaid := fnAllTurns.over
end Go.Proofs.Ytojkgabkiagjdac
