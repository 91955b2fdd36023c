/- For every input the law answers true, and its argument reads afterwards as before: no division is more equal. No condition. -/
import Derived.Test.YtojkgabkiagjdabRows
import Derived.Test.YtojkgabkiagjdabDrawCl
import Derived.Test.YtojkgabkiagjdabLawCl
import Derived.Test.YtojkgabkiagjdabClmS
import Derived.Test.YtojkgabkiagjdabClmF
import Derived.WalkKit
import Derived.Deep.RegionHeld3
import Derived.Deep.QuietTactic
import Derived.BigQuiet
import Derived.RegionTactic
import Derived.ChangeAlike
import Derived.BigRegion
import Derived.ProofKit
import Derived.OpenShut
import Derived.ShutString
import Derived.ChangeOld
import Derived.Below
import Derived.Lib.SmallJoins
namespace Go.Proofs.Ytojkgabkiagjdab.fnEqualGainsGaps
open Go.ChangeShapes Go.WideShapes Go.ChangeAt Go.RowKit Go.Joins
open Go.ChangeMaps (open_string shut_string)
set_option linter.unusedVariables false
set_option linter.unusedSimpArgs false

theorem own : ownKnob Try.prog.godebug = none := by kernel_rfl
theorem laidOut : laidOutB Try.prog = true := by kernel_rfl

set_option maxRecDepth 100000 in
set_option maxHeartbeats 8000000 in
theorem walk (a0 : Option Addr) (len0 cap0 : Nat) (z0 : List Int) (w : World) (w0 : IsRow .u8 w a0 len0 cap0 z0) :
    Calls Try.prog 5 #[.slice a0 len0 cap0] w fun e w' => e = .returned (.bool true) ∧ Below w.heap.size w w' := by
  by_cases big : (1048576 : Int) < (len0 : Int)
  · go_enter Try.func5, Try.ntmps5
    go_wp2
    go_ret
    exact ⟨rfl, Below.refl _ _⟩
  go_enter Try.func5, Try.ntmps5
  go_wp2_with fail
  refine (drawEqualGains a0 len0 cap0 z0 _ w0).mono ?_
  rintro e u1 ⟨n, b1, c1, cs, rfl, n0, n1, hl, hz, I1, B⟩
  clear w0 big
  have hn : cs.length ≤ 1048576 := by omega
  have HZ := Lib.hid hz
  clear hz
  obtain ⟨V, hV⟩ : ∃ V, gainV n cs = V := ⟨_, rfl⟩
  have hVl : V.length ≤ 1048576 := by rw [← hV]; exact (by cases hb : vcB n cs with | false => (rw [gain_no hb]; simp) | true => (rw [gain_len hb]; exact hn))
  have HF : Hid (∀  (W : World), (h1 : IsInts W b1 cs) → Calls Try.prog 18 #[.int .i64 n, .slice b1 cs.length c1] W (OutI W V)) := fun  W h1 => by rw [← hV]; exact iGains n b1 c1 cs W h1 hn
  have HS : Hid (∀  (W : World), (h1 : IsInts W b1 cs) → Calls Try.prog 20 #[.int .i64 n, .slice b1 cs.length c1] W (OutI W V)) := fun  W h1 => by rw [← hV]; exact sGains n b1 c1 cs W h1 hn
  have HQ : Hid (∀ (b : Option Addr) (b' : Option Addr) (c : Nat) (c' : Nat) (W : World), (h1 : IsInts W b V) → (h2 : IsInts W b' V) → Calls Try.prog 19 #[.slice b V.length c, .slice b' V.length c'] W (fun e w' => e = .returned (.bool true) ∧ Below W.heap.size W w')) := fun b b' c c' W h1 h2 => eqInts b b' c c' V W h1 h2 hVl
  have CV := fun (W : World) (h : IsInts W b1 cs) => iVC n b1 c1 cs W h hn
  cases hv : vcB n cs with
  | false =>
    rw [hv] at CV
    have HC := Lib.hid CV
    clear CV hv hV
    go_wp2_with fail
    refine (HF.out _ I1).mono ?_
    rintro e u2_ ⟨v2, rfl, O2, C_⟩
    obtain ⟨b2, c2, rfl, I2⟩ := O2.ints
    clear O2
    replace B := bel_tr B C_
    replace I1 := ints_below I1 C_
    clear C_
    go_wp2_with fail
    refine (HS.out _ I1).mono ?_
    rintro e u3_ ⟨v3, rfl, O3, C_⟩
    obtain ⟨b3, c3, rfl, I3⟩ := O3.ints
    clear O3
    replace B := bel_tr B C_
    replace I1 := ints_below I1 C_
    replace I2 := ints_below I2 C_
    clear C_
    go_wp2_with fail
    refine (HQ.out _ _ _ _ _ I2 I3).mono ?_
    rintro e u4_ ⟨rfl, C_⟩
    replace B := bel_tr B C_
    replace I1 := ints_below I1 C_
    replace I2 := ints_below I2 C_
    replace I3 := ints_below I3 C_
    clear C_
    go_wp2_with fail
    clear I3
    refine (HC.out _ I1).mono ?_
    rintro e w' ⟨rfl, rfl⟩
    go_wp2_with fail
    refine (HS.out _ I1).mono ?_
    rintro e u5_ ⟨v4, rfl, O4, C_⟩
    obtain ⟨b4, c4, rfl, I4⟩ := O4.ints
    clear O4
    replace B := bel_tr B C_
    replace I1 := ints_below I1 C_
    replace I2 := ints_below I2 C_
    clear C_
    go_wp2_with fail
    refine (HQ.out _ _ _ _ _ I2 I4).mono ?_
    rintro e u6_ ⟨rfl, C_⟩
    replace B := bel_tr B C_
    replace I1 := ints_below I1 C_
    replace I2 := ints_below I2 C_
    replace I4 := ints_below I4 C_
    clear C_
    go_wp2_with fail
    go_ret
    exact ⟨rfl, B⟩
  | true =>
  rw [hv] at CV
  have HC := Lib.hid CV
  clear CV
  have F := gain_fair hv
  rw [hV] at F
  have hlv : V.length = cs.length := F.1
  have hcb := fun i (hi : i < cs.length) => allB_get (vc_iff.1 hv).1 hi
  have hsg := fun i j (hg : ggB n cs (shiftZ V i j) = true) => by
    rw [← hV] at hg
    have := shift_gap hv hg
    rw [hV] at this; exact this
  have hlo := gap_losses hv
  have hgood := gain_good hv
  rw [hV] at hlo hgood
  have hll := loss_len hv
  have CO := fun (W : World) (h : IsInts W b1 cs) => iLosses n b1 c1 cs W h hn
  generalize lossV n cs = LL at *
  have CH := fun (W : World) (h : IsInts W b1 cs) => iShares n b1 c1 cs W h hn
  have hsh : ((shareV n cs).length < cs.length) ∨ ((shareV n cs).length = cs.length ∧ gapV V ≤ gapV (shareV n cs)) := by
    cases hb : bsB n cs with
    | false =>
      refine .inl ?_
      rw [share_no hb]
      have h5 : 500 < n := by
        by_cases c : n ≤ 500
        · rw [bs_yes hv c] at hb; cases hb
        · omega
      have := (vc_iff.1 hv).2.2.2
      cases cs with
      | nil => simp at this; omega
      | cons x t => simp
    | true =>
      have sg := share_good hb
      refine .inr ⟨sg.1, ?_⟩
      have := gain_gaps hv sg
      rw [hV] at this
      rwa [gapV_yes (gp_good hv hgood), gapV_yes (gp_good hv sg)]
  generalize shareV n cs = SH at *
  have HCO := Lib.hid CO
  have HCH := Lib.hid CH
  have HSH := Lib.hid hsh
  have HLOG := Lib.hid hlo
  have HFR := Lib.hid F
  have HCB := Lib.hid hcb
  have HLV := Lib.hid hlv
  have HSG := Lib.hid hsg
  have HGV : Hid (∀ (W : World) (b : Option Addr) (c : Nat), IsInts W b V → Calls Try.prog 22 #[.slice b V.length c] W fun e w' => e = .returned (.int .i64 (gapV V)) ∧ Below W.heap.size W w') := fun W b c h => iGaps b c V W h (by omega)
  have HGL : Hid (∀ (W : World) (b : Option Addr) (c : Nat), IsInts W b LL → Calls Try.prog 22 #[.slice b LL.length c] W fun e w' => e = .returned (.int .i64 (gapV LL)) ∧ Below W.heap.size W w') := fun W b c h => iGaps b c LL W h (by omega)
  have HGH : Hid (∀ (W : World) (b : Option Addr) (c : Nat), IsInts W b SH → Calls Try.prog 22 #[.slice b SH.length c] W fun e w' => e = .returned (.int .i64 (gapV SH)) ∧ Below W.heap.size W w') := fun W b c h => iGaps b c SH W h (by rcases hsh with h | h <;> omega)
  have HGS : Hid (∀ (i j : Nat) (W : World) (b : Option Addr) (c : Nat), IsInts W b (shiftZ V i j) → Calls Try.prog 22 #[.slice b V.length c] W fun e w' => e = .returned (.int .i64 (gapV (shiftZ V i j))) ∧ Below W.heap.size W w') := fun i j W b c h => by
    have := iGaps b c (shiftZ V i j) W h (by rw [shift_len]; omega)
    rw [shift_len] at this; exact this
  have HGG : Hid (∀ (i j : Nat) (W : World) (b : Option Addr) (c : Nat), IsInts W b1 cs → IsInts W b (shiftZ V i j) → Calls Try.prog 21 #[.int .i64 n, .slice b1 cs.length c1, .slice b V.length c] W fun e w' => e = .returned (.bool (ggB n cs (shiftZ V i j))) ∧ W = w') := fun i j W b c h1 h2 => by
    have := iGifts n b1 b c1 c cs (shiftZ V i j) W h1 h2 hn (by rw [shift_len]; omega)
    rw [shift_len] at this; exact this
  clear F hV hv hlv hcb hsg hlo hgood hll CO CH hsh
  generalize gapV V = G at *
  generalize gapV LL = GL at *
  generalize gapV SH = GH at *
  go_wp2_with fail
  refine (HF.out _ I1).mono ?_
  rintro e u2_ ⟨v2, rfl, O2, C_⟩
  obtain ⟨b2, c2, rfl, I2⟩ := O2.ints
  clear O2
  replace B := bel_tr B C_
  replace I1 := ints_below I1 C_
  clear C_
  go_wp2_with fail
  refine (HS.out _ I1).mono ?_
  rintro e u3_ ⟨v3, rfl, O3, C_⟩
  obtain ⟨b3, c3, rfl, I3⟩ := O3.ints
  clear O3
  replace B := bel_tr B C_
  replace I1 := ints_below I1 C_
  replace I2 := ints_below I2 C_
  clear C_
  go_wp2_with fail
  refine (HQ.out _ _ _ _ _ I2 I3).mono ?_
  rintro e u4_ ⟨rfl, C_⟩
  replace B := bel_tr B C_
  replace I1 := ints_below I1 C_
  replace I2 := ints_below I2 C_
  replace I3 := ints_below I3 C_
  clear C_
  go_wp2_with fail
  clear I3
  refine (HC.out _ I1).mono ?_
  rintro e w' ⟨rfl, rfl⟩
  go_wp2_with fail
  clear HS HQ HC HF
  refine (HGV.out _ _ _ I2).mono ?_
  rintro e u5_ ⟨rfl, C_⟩
  replace B := bel_tr B C_
  replace I1 := ints_below I1 C_
  replace I2 := ints_below I2 C_
  clear C_
  go_wp2_with fail
  have HI1 := Lib.hid I1
  have HI2 := Lib.hid I2
  have HB0 := Lib.hid B
  clear B I1 I2
  go_loopw [7] (fun i wr => ∃ k : Nat, k ≤ V.length ∧ i = .int .i64 k ∧ Below u5_.heap.size u5_ wr) (fun i _ => V.length - (intOf i).toNat)
  case atStart => exact ⟨0, Nat.zero_le _, rfl, Below.refl _ _⟩
  case round =>
    obtain ⟨i, hi, rfl, hB⟩ := hrel
    by_cases hlt : i < V.length
    · have i0 : (0 : Int) ≤ (i : Int) := by omega
      have i1 : (i : Int) < (V.length : Int) := by omega
      go_wp2_with fail
      go_loopw [8] (fun j wi => ∃ k : Nat, k ≤ V.length ∧ j = .int .i64 k ∧ Below u5_.heap.size u5_ wi) (fun j _ => V.length - (intOf j).toNat)
      case atStart => exact ⟨0, Nat.zero_le _, rfl, hB⟩
      case round =>
        clear hB
        obtain ⟨j, hj, rfl, hB⟩ := hrel
        by_cases hjt : j < V.length
        · have j0 : (0 : Int) ≤ (j : Int) := by omega
          have j1 : (j : Int) < (V.length : Int) := by omega
          have hic : i < cs.length := by have := HLV.out; omega
          have hjc : j < cs.length := by have := HLV.out; omega
          have I2w := ints_below HI2.out hB
          have I1w := ints_below HI1.out hB
          have hv12 : V.length ≤ 7 := by have := HLV.out; omega
          have bx : 0 ≤ V.getD i 0 ∧ V.getD i 0 ≤ 500 := by have := HFR.out.2.2.1 i hic; have := HCB.out i hic; omega
          have byj : 0 ≤ (V.set i (V.getD i 0 + 1)).getD j 0 ∧ (V.set i (V.getD i 0 + 1)).getD j 0 ≤ 501 := by
            rw [getD_setZ j _ hlt]
            have := HFR.out.2.2.1 j hjc
            have := HCB.out j hjc
            split <;> omega
          have wx : IntKind.i64.wrap (V.getD i 0 + 1) = V.getD i 0 + 1 := by rw [IntKind.wrap_i64]; omega
          have wy : IntKind.i64.wrap ((V.set i (V.getD i 0 + 1)).getD j 0 - 1) = (V.set i (V.getD i 0 + 1)).getD j 0 - 1 := by rw [IntKind.wrap_i64]; omega
          have HI1w := Lib.hid I1w
          clear hic hjc I1w
          go_wp2_with (first | (at_builtin; refine wp_joinI rfl _ _ rfl rfl (OwnI.new (Below.refl wr.heap.size wr)) rfl rfl (ints_below I2w ((Below.refl _ wr).alloc (Nat.le_refl _) _)) (by show 0 + _ ≤ _; omega) (by simp) ?_; intro v5 w5 Q5 G5 n5; rw [List.nil_append] at Q5; have B5 : Below wr.heap.size wr w5 := below_gv ((Below.refl wr.heap.size wr).alloc (Nat.le_refl _) _) G5 (fun q hq => (OwnI.new (Below.refl wr.heap.size wr)).grow q hq); obtain ⟨b5, c5, rfl, _⟩ := Q5.ints; obtain ⟨g5, rfl, hg5⟩ := Q5.form_ (by omega); have x5 := Q5.cell (j := i) hlt; have f5 := Q5.frozen i; have Q6 := Q5.set_ i (V.getD i 0 + 1); have x6 := Q6.cell (j := j) (by rw [List.length_set]; exact hjt); have f6 := Q6.frozen j; have Q7 := Q6.set_ j ((V.set i (V.getD i 0 + 1)).getD j 0 - 1); have HS := Lib.hid (And.intro (show OwnI _ wr.heap.size (.slice (some ⟨g5, 0, none⟩) V.length c5) (shiftZ V i j) from Q7) ((B5.setCell (p := ⟨g5, i, none⟩) hg5 (.int .i64 (V.getD i 0 + 1))).setCell (p := ⟨g5, j, none⟩) hg5 (.int .i64 ((V.set i (V.getD i 0 + 1)).getD j 0 - 1)))); generalize hx : V.getD i 0 = x at x5 x6 f6 HS bx byj wx wy; generalize hy : (V.set i (x + 1)).getD j 0 = y at x6 HS byj wy; clear hx hy Q5 G5 n5 B5 Q6 Q7))
          have BS := HS.out.2
          have CGG := HGG.out i j _ (some ⟨g5, 0, none⟩) c5 (ints_below HI1w.out BS) HS.out.1.at_
          cases hgg : ggB n cs (shiftZ V i j) with
          | false =>
            rw [hgg] at CGG
            refine CGG.mono ?_
            rintro e w' ⟨rfl, rfl⟩
            have HB9 := Lib.hid (bel_tr hB BS)
            clear CGG hgg BS HS I2w x5 x6 f5 f6
            go_wp2_with fail
            go_roundw
            case rel => exact ⟨j + 1, by omega, by go_num, HB9.out⟩
            case measure => simp [intOf]; omega
          | true =>
            rw [hgg] at CGG
            have hle := HSG.out i j hgg
            have CGS := HGS.out i j _ (some ⟨g5, 0, none⟩) c5 HS.out.1.at_
            generalize gapV (shiftZ V i j) = gs at *
            have e1 : decide (gs < G) = false := decide_eq_false (by omega)
            have e2 : ¬ gs < G := by omega
            have HCGS := Lib.hid CGS
            refine CGG.mono ?_
            rintro e w' ⟨rfl, rfl⟩
            have HB9 := Lib.hid (bel_tr hB BS)
            clear CGG CGS hgg BS HS I2w x5 x6 f5 f6 hle
            go_wp2_with fail
            refine HCGS.out.mono ?_
            rintro e w9 ⟨rfl, C9⟩
            have HBA := Lib.hid (bel_tr HB9.out C9)
            clear C9 HB9 HCGS
            go_wp2_with fail
            go_roundw
            case rel => exact ⟨j + 1, by omega, by go_num, HBA.out⟩
            case measure => simp [intOf]; omega
        · obtain rfl : j = V.length := by omega
          go_wp2_with fail
          go_roundw
          case rel => exact ⟨i + 1, by omega, by go_num, hB⟩
          case measure => simp [intOf]; omega
    · obtain rfl : i = V.length := by omega
      have B := bel_tr HB0.out hB
      have I1 := ints_below HI1.out hB
      have I2 := ints_below HI2.out hB
      go_wp2_with fail
      refine (HCH.out _ I1).mono ?_
      rintro e u6_ ⟨v6, rfl, O6, C_⟩
      obtain ⟨b6, c6, rfl, I6⟩ := O6.ints
      clear O6
      replace B := bel_tr B C_
      replace I1 := ints_below I1 C_
      replace I2 := ints_below I2 C_
      clear C_
      go_wp2_with fail
      refine (HCO.out _ I1).mono ?_
      rintro e u7_ ⟨v7, rfl, O7, C_⟩
      obtain ⟨b7, c7, rfl, I7⟩ := O7.ints
      clear O7
      replace B := bel_tr B C_
      replace I1 := ints_below I1 C_
      replace I2 := ints_below I2 C_
      replace I6 := ints_below I6 C_
      clear C_
      go_wp2_with fail
      refine (HGL.out _ _ _ I7).mono ?_
      rintro e u8_ ⟨rfl, C_⟩
      replace B := bel_tr B C_
      replace I1 := ints_below I1 C_
      replace I2 := ints_below I2 C_
      replace I6 := ints_below I6 C_
      replace I7 := ints_below I7 C_
      clear C_
      have e1 : decide (G ≤ GL) = true := decide_eq_true HLOG.out
      have e2 : G ≤ GL := HLOG.out
      rcases HSH.out with hs1 | ⟨hs1, hs2⟩
      · have e3 : decide ((SH.length : Int) < (cs.length : Int)) = true := decide_eq_true (by omega)
        have e4 : (SH.length : Int) < (cs.length : Int) := by omega
        clear hs1
        go_wp2_with fail
        go_ret
        exact ⟨rfl, B⟩
      · have e3 : decide ((SH.length : Int) < (cs.length : Int)) = false := decide_eq_false (by omega)
        have e4 : ¬ (SH.length : Int) < (cs.length : Int) := by omega
        have e5 : decide (G ≤ GH) = true := decide_eq_true hs2
        clear hs1
        go_wp2_with fail
        refine (HGH.out _ _ _ I6).mono ?_
        rintro e u9_ ⟨rfl, C_⟩
        replace B := bel_tr B C_
        replace I1 := ints_below I1 C_
        replace I2 := ints_below I2 C_
        replace I6 := ints_below I6 C_
        replace I7 := ints_below I7 C_
        clear C_
        go_wp2_with fail
        go_ret
        exact ⟨rfl, B⟩

set_option maxRecDepth 100000 in
theorem lifted (os : Os) (started : os.Started) (H : Type) (enc : TypeId × Value → H) :
    ReturnsInHanded {} Try.checked os 5 .any (Rows.fnEqualGainsGapsSpec.pre6 enc Try.prog Try.f5 Rows.fnEqualGainsGapsRow.domain false) (Rows.fnEqualGainsGapsSpec.post enc Try.prog Try.f5 false true false false) := by
  refine returnsInHanded_of_change (C := Try.checked) own started (by kernel_rfl) Try.func5
    (ChangeSpec.witness6 (enc := enc) (C := Try.checked) false ⟨#[], #[.slice none 0 0], []⟩ 8 (by kernel_rfl) (by kernel_rfl) (by kernel_rfl) (by kernel_rfl)) ?_
  intro W base args ds gs before hval0 hW hcnd _
  have hval : ∀ (j : Nat) t v, Try.f5.params[j]? = some t → args[j]? = some v → Value.okWide Try.prog W .any base t v := hval0
  have hW' := hW
  obtain ⟨p, q, hA0, hV, rfl, hfz, hnd⟩ := hW
  have hA : DataW.TrodAll enc Try.prog W 0 (fun _ => true) true Try.f5.params.toList args.toList ds p := hA0
  rw [Try.params5] at hA hval
  obtain ⟨v0, vs0, e0, es0, p0, q0, hargs, rfl, rfl, h0, r0⟩ := trodAll_cons hA
  obtain ⟨rfl, rfl, rfl⟩ := trodAll_nil r0
  obtain rfl : args = #[v0] := by cases args; simp_all
  obtain ⟨rfl, rfl⟩ := trodVars_none hV
  have k0 := h0
  have lt0 : ∀ x ∈ p0, x.block < W.heap.size := by obtain ⟨m, hm⟩ := k0; exact DataW.trod_lt m _ _ _ hm
  obtain ⟨a0, len0, cap0, rfl⟩ := okWide_slice Try.underlying22 (hval 0 22 v0 rfl rfl)
  obtain ⟨z0, w0⟩ : ∃ zs, IsRow .u8 W a0 len0 cap0 zs := by
    obtain ⟨fuel, hf⟩ := h0
    rcases open_ints Try.underlying22 Try.underlying5 (by kernel_rfl) hf with ⟨hcs, _⟩ | ⟨x, l, c, zs, hcs, _, hl, hm, hz, _, hcell, hwz⟩
    · simp [Value.cells] at hcs
      obtain ⟨rfl, rfl, rfl⟩ := hcs
      exact ⟨[], .inl ⟨rfl, rfl, rfl, rfl⟩⟩
    · simp [Value.cells] at hcs
      obtain ⟨rfl, rfl, rfl⟩ := hcs
      exact ⟨zs, .inr ⟨_, rfl, hl, hm, by simpa using hz, hcell, hwz⟩⟩
  clear hA0 hval0
  refine (walk a0 len0 cap0 z0 W w0).mono fun e W' ⟨he, bel⟩ => ?_
  subst he
  exact ⟨_, rfl, _, _, _, [], _, [], hW', trodAll_mk1 (shut_bool Try.underlying4 _), (trodAll_cons_mk (Below.trod laidOut (by kernel_rfl) (of_decide_eq_true (by kernel_rfl)) k0 bel lt0) trodAll_mk0), rfl, bel.frame _, fun h => by cases h⟩

theorem over : Rows.fnEqualGainsGapsRow.holds Try.pinned (OpenSpec.ofChange Rows.fnEqualGainsGapsSpec) :=
  OpenClaim.holds_of_wide 5 Try.f5 rfl rfl rfl rfl rfl rfl rfl ⟨rfl, rfl, rfl, rfl, rfl⟩ rfl rfl rfl rfl rfl (by kernel_rfl) Try.func5 (by kernel_rfl)
    (of_decide_eq_true (by kernel_rfl)) (by unfold Func.isWrapper; first | (rw [if_pos (by decide +kernel)]; kernel_rfl) | (rw [if_neg (by decide +kernel)]; exact ⟨rfl, rfl⟩))
    (fun os started H enc _ => lifted os started H enc)

end Go.Proofs.Ytojkgabkiagjdab.fnEqualGainsGaps
namespace Go.Proofs.Ytojkgabkiagjdab
/-- the statement -/
theorem fnEqualGainsGaps_holds : Rows.FnEqualGainsGapsSaid := fnEqualGainsGaps.over
end Go.Proofs.Ytojkgabkiagjdab
