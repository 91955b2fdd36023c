/- For every input the law answers true, and its argument reads afterwards as before: what nobody else claims is sure. No condition. -/
import Derived.Test.YtojkgabkiagjdacRows
import Derived.Test.YtojkgabkiagjdacDrawCl
import Derived.Test.YtojkgabkiagjdacLawCl
import Derived.Test.YtojkgabkiagjdacClmW
import Derived.Test.YtojkgabkiagjdacClmT
import Derived.Test.YtojkgabkiagjdacClmF
import Derived.WalkKit
import Derived.Deep.RegionHeld3
import Derived.Deep.QuietTactic
import Derived.BigQuiet
import Derived.RegionTactic
import Derived.ChangeAlike
import Derived.BigRegion
import Derived.ProofKit
import Derived.OpenShut
import Derived.ShutString
import Derived.ChangeOld
import Derived.Below
import Derived.Lib.SmallJoins
namespace Go.Proofs.Ytojkgabkiagjdac.fnAtLeast
open Go.ChangeShapes Go.WideShapes Go.ChangeAt Go.RowKit Go.Joins
open Go.ChangeMaps (open_string shut_string)
set_option linter.unusedVariables false
set_option linter.unusedSimpArgs false

theorem own : ownKnob Try.prog.godebug = none := by kernel_rfl
theorem laidOut : laidOutB Try.prog = true := by kernel_rfl

set_option maxRecDepth 100000 in
set_option maxHeartbeats 8000000 in
theorem walk (a0 : Option Addr) (len0 cap0 : Nat) (z0 : List Int) (w : World) (w0 : IsRow .u8 w a0 len0 cap0 z0) :
    Calls Try.prog 7 #[.slice a0 len0 cap0] w fun e w' => e = .returned (.bool true) ∧ Below w.heap.size w w' := by
  by_cases big : (1048576 : Int) < (len0 : Int)
  · go_enter Try.func7, Try.ntmps7
    go_wp2
    go_ret
    exact ⟨rfl, Below.refl _ _⟩
  go_enter Try.func7, Try.ntmps7
  go_wp2_with fail
  refine (drawAtLeast a0 len0 cap0 z0 _ w0).mono ?_
  rintro e u1 ⟨n, b1, c1, cs, rfl, n0, n1, hl, hz, I1, B⟩
  clear w0 big
  have hn : cs.length ≤ 1048576 := by omega
  have HZ := Lib.hid hz
  clear hz
  obtain ⟨V, hV⟩ : ∃ V, leastV n cs = V := ⟨_, rfl⟩
  have hVl : V.length ≤ 1048576 := by rw [← hV]; exact (by cases hb : vcB n cs with | false => (rw [leastV_no hb]; simp) | true => (rw [leastV_yes hb, sureC_len]; exact hn))
  have HF : Hid (∀  (W : World), (h1 : IsInts W b1 cs) → Calls Try.prog 15 #[.int .i64 n, .slice b1 cs.length c1] W (OutI W V)) := fun  W h1 => by rw [← hV]; exact iAtLeast n b1 c1 cs W h1 hn
  have HS : Hid (∀  (W : World), (h1 : IsInts W b1 cs) → Calls Try.prog 22 #[.int .i64 n, .slice b1 cs.length c1] W (OutI W V)) := fun  W h1 => by rw [← hV]; exact sAtLeast n b1 c1 cs W h1 hn
  have HQ : Hid (∀ (b : Option Addr) (b' : Option Addr) (c : Nat) (c' : Nat) (W : World), (h1 : IsInts W b V) → (h2 : IsInts W b' V) → Calls Try.prog 13 #[.slice b V.length c, .slice b' V.length c'] W (fun e w' => e = .returned (.bool true) ∧ Below W.heap.size W w')) := fun b b' c c' W h1 h2 => eqInts b b' c c' V W h1 h2 hVl
  have CV := fun (W : World) (h : IsInts W b1 cs) => iVC n b1 c1 cs W h hn
  cases hv : vcB n cs with
  | false =>
    rw [hv] at CV
    have HC := Lib.hid CV
    clear CV hv hV
    go_wp2_with fail
    refine (HF.out _ I1).mono ?_
    rintro e u2_ ⟨v2, rfl, O2, C_⟩
    obtain ⟨b2, c2, rfl, I2⟩ := O2.ints
    clear O2
    replace B := bel_tr B C_
    replace I1 := ints_below I1 C_
    clear C_
    go_wp2_with fail
    refine (HS.out _ I1).mono ?_
    rintro e u3_ ⟨v3, rfl, O3, C_⟩
    obtain ⟨b3, c3, rfl, I3⟩ := O3.ints
    clear O3
    replace B := bel_tr B C_
    replace I1 := ints_below I1 C_
    replace I2 := ints_below I2 C_
    clear C_
    go_wp2_with fail
    refine (HQ.out _ _ _ _ _ I2 I3).mono ?_
    rintro e u4_ ⟨rfl, C_⟩
    replace B := bel_tr B C_
    replace I1 := ints_below I1 C_
    replace I2 := ints_below I2 C_
    replace I3 := ints_below I3 C_
    clear C_
    go_wp2_with fail
    clear I3
    refine (HC.out _ I1).mono ?_
    rintro e w' ⟨rfl, rfl⟩
    go_wp2_with fail
    refine (HS.out _ I1).mono ?_
    rintro e u5_ ⟨v4, rfl, O4, C_⟩
    obtain ⟨b4, c4, rfl, I4⟩ := O4.ints
    clear O4
    replace B := bel_tr B C_
    replace I1 := ints_below I1 C_
    replace I2 := ints_below I2 C_
    clear C_
    go_wp2_with fail
    refine (HQ.out _ _ _ _ _ I2 I4).mono ?_
    rintro e u6_ ⟨rfl, C_⟩
    replace B := bel_tr B C_
    replace I1 := ints_below I1 C_
    replace I2 := ints_below I2 C_
    replace I4 := ints_below I4 C_
    clear C_
    go_wp2_with fail
    go_ret
    exact ⟨rfl, B⟩
  | true =>
  rw [hv] at CV
  have HC := Lib.hid CV
  clear CV
  have hVS : V = sureC n cs := by rw [← hV]; exact leastV_yes hv
  have hlv : V.length = cs.length := by rw [hVS]; exact sureC_len _ _
  have ga := gain_good hv
  have gl := loss_good hv
  have fa := fun i (hi : i < cs.length) => sure_good ga hi
  have fb := fun i (hi : i < cs.length) => sure_good gl hi
  have fs := sure_sum ga
  have hc := fun (hb : hfB n cs = true) => (half_good hb).1
  have hsm : (halfV n cs).length = 0 ∨ ((halfV n cs).length = cs.length ∧ ∀ i, i < cs.length → (sureC n cs).getD i 0 ≤ (halfV n cs).getD i 0) := by
    cases hb : hfB n cs with
    | false => exact .inl (by rw [half_no hb]; rfl)
    | true => exact .inr ⟨half_len hb, fun i hi => sure_good (hc hb) hi⟩
  have CA := fun (W : World) (h : IsInts W b1 cs) => iGains n b1 c1 cs W h hn
  have CB := fun (W : World) (h : IsInts W b1 cs) => iLosses n b1 c1 cs W h hn
  have CC := fun (W : World) (h : IsInts W b1 cs) => iHalf n b1 c1 cs W h hn
  have la := gain_len hv
  have lb := loss_len hv
  rw [← hVS] at fa fb fs hsm
  have vb : ∀ z ∈ V, -1000000 ≤ z ∧ z ≤ 1000000 := fun z hz => by
    rw [hVS] at hz
    unfold sureC at hz
    obtain ⟨y, hy, rfl⟩ := List.mem_map.1 hz
    have h1 := (allB_iff cs 500).1 (vc_iff.1 hv).1 y hy
    have h2 := (vc_iff.1 hv).2.2
    omega
  have CT := fun (b : Option Addr) (c : Nat) (W : World) (h : IsInts W b V) => ltotal b c V W h (by omega) vb
  generalize gainV n cs = GA at *
  generalize lossV n cs = GB at *
  generalize halfV n cs = GC at *
  generalize V.sum = S at *
  have HA := Lib.hid CA
  have HB := Lib.hid CB
  have HCC := Lib.hid CC
  have HT := Lib.hid CT
  have HFA := Lib.hid fa
  have HFB := Lib.hid fb
  have HSM := Lib.hid hsm
  have HLV : Hid (V.length = cs.length ∧ GA.length = cs.length ∧ GB.length = cs.length) := ⟨hlv, la, lb⟩
  have HFS := Lib.hid fs
  clear CA CB CC CT fa fb fs hsm ga gl hc la lb vb hVS hlv hV hv
  go_wp2_with fail
  refine (HF.out _ I1).mono ?_
  rintro e u2_ ⟨v2, rfl, O2, C_⟩
  obtain ⟨b2, c2, rfl, I2⟩ := O2.ints
  clear O2
  replace B := bel_tr B C_
  replace I1 := ints_below I1 C_
  clear C_
  go_wp2_with fail
  refine (HS.out _ I1).mono ?_
  rintro e u3_ ⟨v3, rfl, O3, C_⟩
  obtain ⟨b3, c3, rfl, I3⟩ := O3.ints
  clear O3
  replace B := bel_tr B C_
  replace I1 := ints_below I1 C_
  replace I2 := ints_below I2 C_
  clear C_
  go_wp2_with fail
  refine (HQ.out _ _ _ _ _ I2 I3).mono ?_
  rintro e u4_ ⟨rfl, C_⟩
  replace B := bel_tr B C_
  replace I1 := ints_below I1 C_
  replace I2 := ints_below I2 C_
  replace I3 := ints_below I3 C_
  clear C_
  go_wp2_with fail
  clear I3
  refine (HC.out _ I1).mono ?_
  rintro e w' ⟨rfl, rfl⟩
  go_wp2_with fail
  refine (HA.out _ I1).mono ?_
  rintro e u5_ ⟨v5, rfl, O5, C_⟩
  obtain ⟨b5, c5, rfl, I5⟩ := O5.ints
  clear O5
  replace B := bel_tr B C_
  replace I1 := ints_below I1 C_
  replace I2 := ints_below I2 C_
  clear C_
  go_wp2_with fail
  refine (HB.out _ I1).mono ?_
  rintro e u6_ ⟨v6, rfl, O6, C_⟩
  obtain ⟨b6, c6, rfl, I6⟩ := O6.ints
  clear O6
  replace B := bel_tr B C_
  replace I1 := ints_below I1 C_
  replace I2 := ints_below I2 C_
  replace I5 := ints_below I5 C_
  clear C_
  go_wp2_with fail
  refine (HCC.out _ I1).mono ?_
  rintro e u7_ ⟨v7, rfl, O7, C_⟩
  obtain ⟨b7, c7, rfl, I7⟩ := O7.ints
  clear O7
  replace B := bel_tr B C_
  replace I1 := ints_below I1 C_
  replace I2 := ints_below I2 C_
  replace I5 := ints_below I5 C_
  replace I6 := ints_below I6 C_
  clear C_
  go_wp2_with fail
  have HI2 := Lib.hid I2
  have HI5 := Lib.hid I5
  have HI6 := Lib.hid I6
  have HI7 := Lib.hid I7
  have KB := Lib.hid B
  clear B I1 I2 I5 I6 I7 HQ HS HF HA HB HCC
  go_loopw [9] (fun i wr => ∃ k : Nat, k ≤ V.length ∧ i = .int .i64 k ∧ Below u7_.heap.size u7_ wr) (fun i _ => V.length - (intOf i).toNat)
  case atStart => exact ⟨0, Nat.zero_le _, rfl, Below.refl _ _⟩
  case round =>
    obtain ⟨i, hi, rfl, hB⟩ := hrel
    by_cases hlt : i < V.length
    · have hic : i < cs.length := by have := HLV.out; omega
      have i0 : (0 : Int) ≤ (i : Int) := by omega
      have i1 : (i : Int) < (V.length : Int) := by omega
      have i2 : (i : Int) < (GA.length : Int) := by have := HLV.out; omega
      have i3 : (i : Int) < (GB.length : Int) := by have := HLV.out; omega
      obtain ⟨g2, o2, rfl, h2⟩ := ints_openL HI2.out (by omega)
      obtain ⟨g5, o5, rfl, h5⟩ := ints_openL HI5.out (by omega)
      obtain ⟨g6, o6, rfl, h6⟩ := ints_openL HI6.out (by omega)
      have x0 := cell_nowL (h2 i hlt) hB
      have x1 := cell_nowL (h5 i (by omega)) hB
      have x2 := cell_nowL (h6 i (by omega)) hB
      have f1 := HFA.out i hic
      have f2 := HFB.out i hic
      clear h2 h5 h6
      rcases HSM.out with hs0 | ⟨hs0, hs1⟩
      · have e3 : decide (0 < (GC.length : Int)) = false := decide_eq_false (by omega)
        have e3' : decide (0 < GC.length) = false := decide_eq_false (by omega)
        clear hs0 hic
        generalize V.getD i 0 = x at *
        generalize GA.getD i 0 = y at *
        generalize GB.getD i 0 = z at *
        have e1 : decide (y < x) = false := decide_eq_false (by omega)
        have e2 : decide (z < x) = false := decide_eq_false (by omega)
        go_wp2_with fail
        go_quiet (fail)
        go_wp2
        go_roundw
        case rel => exact ⟨i + 1, by omega, by go_num, below_drewN hB _⟩
        case measure => simp [intOf]; omega
      · have e3 : decide (0 < (GC.length : Int)) = true := decide_eq_true (by omega)
        have e3' : decide (0 < GC.length) = true := decide_eq_true (by omega)
        have i4 : (i : Int) < (GC.length : Int) := by omega
        obtain ⟨g7, o7, rfl, h7⟩ := ints_openL HI7.out (by omega)
        have x3 := cell_nowL (h7 i (by omega)) hB
        have f3 := hs1 i hic
        clear hs0 hs1 hic h7
        generalize V.getD i 0 = x at *
        generalize GA.getD i 0 = y at *
        generalize GB.getD i 0 = z at *
        generalize GC.getD i 0 = q at *
        have e1 : decide (y < x) = false := decide_eq_false (by omega)
        have e2 : decide (z < x) = false := decide_eq_false (by omega)
        have e4 : decide (q < x) = false := decide_eq_false (by omega)
        go_wp2_with fail
        go_quiet (fail)
        go_wp2
        go_roundw
        case rel => exact ⟨i + 1, by omega, by go_num, below_drewN hB _⟩
        case measure => simp [intOf]; omega
    · obtain rfl : i = V.length := by omega
      have B := bel_tr KB.out hB
      have I2 := ints_below HI2.out hB
      have e9 : decide (S ≤ n) = true := decide_eq_true HFS.out
      go_wp2_with fail
      refine (HT.out _ _ _ I2).mono ?_
      rintro e w' ⟨rfl, rfl⟩
      go_wp2_with fail
      go_ret
      exact ⟨rfl, B⟩

set_option maxRecDepth 100000 in
theorem lifted (os : Os) (started : os.Started) (H : Type) (enc : TypeId × Value → H) :
    ReturnsInHanded {} Try.checked os 7 .any (Rows.fnAtLeastSpec.pre6 enc Try.prog Try.f7 Rows.fnAtLeastRow.domain false) (Rows.fnAtLeastSpec.post enc Try.prog Try.f7 false true false false) := by
  refine returnsInHanded_of_change (C := Try.checked) own started (by kernel_rfl) Try.func7
    (ChangeSpec.witness6 (enc := enc) (C := Try.checked) false ⟨#[], #[.slice none 0 0], []⟩ 8 (by kernel_rfl) (by kernel_rfl) (by kernel_rfl) (by kernel_rfl)) ?_
  intro W base args ds gs before hval0 hW hcnd _
  have hval : ∀ (j : Nat) t v, Try.f7.params[j]? = some t → args[j]? = some v → Value.okWide Try.prog W .any base t v := hval0
  have hW' := hW
  obtain ⟨p, q, hA0, hV, rfl, hfz, hnd⟩ := hW
  have hA : DataW.TrodAll enc Try.prog W 0 (fun _ => true) true Try.f7.params.toList args.toList ds p := hA0
  rw [Try.params7] at hA hval
  obtain ⟨v0, vs0, e0, es0, p0, q0, hargs, rfl, rfl, h0, r0⟩ := trodAll_cons hA
  obtain ⟨rfl, rfl, rfl⟩ := trodAll_nil r0
  obtain rfl : args = #[v0] := by cases args; simp_all
  obtain ⟨rfl, rfl⟩ := trodVars_none hV
  have k0 := h0
  have lt0 : ∀ x ∈ p0, x.block < W.heap.size := by obtain ⟨m, hm⟩ := k0; exact DataW.trod_lt m _ _ _ hm
  obtain ⟨a0, len0, cap0, rfl⟩ := okWide_slice Try.underlying22 (hval 0 22 v0 rfl rfl)
  obtain ⟨z0, w0⟩ : ∃ zs, IsRow .u8 W a0 len0 cap0 zs := by
    obtain ⟨fuel, hf⟩ := h0
    rcases open_ints Try.underlying22 Try.underlying5 (by kernel_rfl) hf with ⟨hcs, _⟩ | ⟨x, l, c, zs, hcs, _, hl, hm, hz, _, hcell, hwz⟩
    · simp [Value.cells] at hcs
      obtain ⟨rfl, rfl, rfl⟩ := hcs
      exact ⟨[], .inl ⟨rfl, rfl, rfl, rfl⟩⟩
    · simp [Value.cells] at hcs
      obtain ⟨rfl, rfl, rfl⟩ := hcs
      exact ⟨zs, .inr ⟨_, rfl, hl, hm, by simpa using hz, hcell, hwz⟩⟩
  clear hA0 hval0
  refine (walk a0 len0 cap0 z0 W w0).mono fun e W' ⟨he, bel⟩ => ?_
  subst he
  exact ⟨_, rfl, _, _, _, [], _, [], hW', trodAll_mk1 (shut_bool Try.underlying4 _), (trodAll_cons_mk (Below.trod laidOut (by kernel_rfl) (of_decide_eq_true (by kernel_rfl)) k0 bel lt0) trodAll_mk0), rfl, bel.frame _, fun h => by cases h⟩

theorem over : Rows.fnAtLeastRow.holds Try.pinned (OpenSpec.ofChange Rows.fnAtLeastSpec) :=
  OpenClaim.holds_of_wide 7 Try.f7 rfl rfl rfl rfl rfl rfl rfl ⟨rfl, rfl, rfl, rfl, rfl⟩ rfl rfl rfl rfl rfl (by kernel_rfl) Try.func7 (by kernel_rfl)
    (of_decide_eq_true (by kernel_rfl)) (by unfold Func.isWrapper; first | (rw [if_pos (by decide +kernel)]; kernel_rfl) | (rw [if_neg (by decide +kernel)]; exact ⟨rfl, rfl⟩))
    (fun os started H enc _ => lifted os started H enc)

end Go.Proofs.Ytojkgabkiagjdac.fnAtLeast
namespace Go.Proofs.Ytojkgabkiagjdac
/-- the statement -/
theorem fnAtLeast_holds : Rows.FnAtLeastSaid := fnAtLeast.over
end Go.Proofs.Ytojkgabkiagjdac
