/- For every input the law answers true, and its arguments read afterwards as before: impl.SellShare answers as its model. No condition. -/
import Derived.Test.YtghfoceceomicaaRows
import Derived.Test.YtghfoceceomicaaLawH
import Derived.Test.YtghfoceceomicaaJoinS
import Derived.Test.YtghfoceceomicaaOpenH
import Derived.WalkKit
import Derived.ProofKit
import Derived.OpenShut
import Derived.ShutString
import Derived.ChangeOld
import Derived.Below
import Derived.Deep.RegionHeld3
import Derived.Deep.DeepCutAuto
import Derived.Lib.SmallJoins
namespace Go.Proofs.Ytghfoceceomicaa.fnExactSellShare
open Go.ChangeShapes Go.WideShapes Go.ChangeAt Go.RowKit Go.Joins
open Go.ChangeMaps (open_string shut_string)
set_option linter.unusedVariables false

theorem own : ownKnob Try.prog.godebug = none := by kernel_rfl
theorem laidOut : laidOutB Try.prog = true := by kernel_rfl

set_option maxRecDepth 100000 in
set_option maxHeartbeats 6000000 in
theorem walk (a0 : Option Addr) (len0 cap0 : Nat) (hs0 : List Hd) (a1 : Int) (a2 : Int) (n3 d3 : Int) (w : World) (w0 : HoldsIn w a0 len0 cap0 hs0) (w1 : (Lit.int .i64 a1).wf = true) (w2 : (Lit.int .i64 a2).wf = true) (w3 : (Lit.int .i64 n3).wf = true) (x3 : (Lit.int .i64 d3).wf = true) :
    Calls Try.prog 5 #[.slice a0 len0 cap0, .int .i64 a1, .int .i64 a2, .agg #[.int .i64 n3, .int .i64 d3]] w fun e w' => e = .returned (.bool true) ∧ Below w.heap.size w w' := by
  obtain ⟨rfl, h1, hlc, hcm⟩ := w0
  have hB0 : Below w.heap.size w (w.alloc (.cells #[.int .i64 n3, .int .i64 d3] 34)) := by go_grown
  have hK0 := Blk.new w 34 #[.int .i64 n3, .int .i64 d3]
  by_cases big : 1048576 < hs0.length
  · have hm2 : hs0.length ≤ 9223372036854775807 := by unfold maxLen at hcm; omega
    go_enter Try.func5, Try.ntmps5
    go_wp2_with fail
    refine (lszH_no a0 hs0.length cap0 _ big hm2).mono ?_
    rintro e w' ⟨rfl, rfl⟩
    go_wp2_with fail
    go_ret
    exact ⟨rfl, hB0⟩
  have n1 : hs0.length ≤ 1048576 := by omega
  obtain ⟨b, hb⟩ : ∃ b, selB hs0 a1 a2 n3 d3 = b := ⟨_, rfl⟩
  obtain ⟨R, hR⟩ : ∃ R, rawL (selL hs0 a1 a2 n3 d3) = R := ⟨_, rfl⟩
  have CS : ∀ (c : Nat) (A : Option Addr) (W : World), IsHs W A hs0 → Calls Try.prog 23 #[.slice A hs0.length c, .int .i64 a1, .int .i64 a2, .agg #[.int .i64 n3, .int .i64 d3]] W (MoveV W b (selL hs0 a1 a2 n3 d3)) := fun c A W hW => by
    rw [← hb]; exact sSell A c hs0 a1 a2 n3 d3 W hW n1
  have CI : ∀ (c : Nat) (A : Option Addr) (W : World), IsHs W A hs0 → hs0.length ≤ c → Calls Try.prog 25 #[.slice A hs0.length c, .int .i64 a1, .int .i64 a2, .agg #[.int .i64 n3, .int .i64 d3]] W (MoveV W b (selL hs0 a1 a2 n3 d3)) := fun c A W hW hc => by
    rw [← hb]; exact iSell A c hs0 a1 a2 n3 d3 W hW n1 hc
  have HL : Hid (b = true → 0 < R.length ∧ R.length ≤ 1048576) := fun c => by
    rw [← hR]; exact sel_small (hb.trans c)
  have HR := Lib.hid hR
  clear hb hR
  go_enter Try.func5, Try.ntmps5
  go_wp2_with fail
  refine (lszH a0 hs0.length cap0 _ n1).mono ?_
  rintro e w' ⟨rfl, rfl⟩
  obtain ⟨wo, hwo⟩ : ∃ wo, wo = w.alloc (.cells #[.int .i64 n3, .int .i64 d3] 34) := ⟨_, rfl⟩
  have hO1 : IsHs wo a0 hs0 := by rw [hwo]; exact hs_below h1 hB0
  have B0 : Below w.heap.size w wo := by rw [hwo]; exact hB0
  have K0 : Blk wo w.heap.size 34 #[.int .i64 n3, .int .i64 d3] := by rw [hwo]; exact hK0
  have hk0 := (blk_two K0).1
  have hk1 := (blk_two K0).2.1
  rw [← hwo]
  clear hwo hB0 hK0
  go_upto_region 5 with fail
  go_cut [10, 11] (fun sx sy wx => sy = .bool b ∧ ((b = false → sx = .slice none 0 0) ∧ (b = true → ∃ (b2 : Option Addr) (c2 : Nat), sx = .slice b2 R.length c2 ∧ IsHs wx b2 R)) ∧ Below wo.heap.size wo wx)
  case first =>
    go_region_held3 (fun w' => w'.cell? ⟨w.heap.size, 0, none⟩ = some (.int .i64 n3) ∧ w'.cell? ⟨w.heap.size, 1, none⟩ = some (.int .i64 d3) ∧ Below wo.heap.size wo w') (first | (exact keepQ hb (by assumption)) | (refine ⟨?_, ?_, ?_⟩ <;> first | (go_keep; done) | exact (Below.refl _ _).drew))
      (first | (go_at_call 17; refine (ltoH a0 cap0 hs0 _ (hs_below hO1 (And.right (And.right (by assumption)))) n1).mono ?_; rintro e wq ⟨gq, rfl, lgq, Rq, hb⟩) | (go_at_call 24; refine (ltoFrac n3 d3 _).mono ?_; rintro e wq ⟨rfl, hb⟩) | (go_at_call 23; refine (CS _ _ _ (by first | exact Rq.hs | exact (Rq.next hb).hs)).mono ?_; rintro e wq2 ⟨v, rfl, m1, m2, hb⟩))
    all_goals
      have hS := ‹_ ∧ _›
      go_wp2_with fail
      go_meet
      exact ⟨rfl, ⟨m1, fun c => by obtain ⟨b2, c2, hv2, I2, _⟩ := own_hs2 (m2 c); rw [HR.out] at hv2 I2; exact ⟨b2, c2, hv2, I2⟩⟩, hS.2.2⟩
  case rest =>
    obtain ⟨rfl, ⟨m1, m2⟩, C2⟩ := hcut
    have B2 := bel_tr B0 C2
    have K2 := K0.next C2
    clear hk0 hk1
    cases b with
    | false =>
      clear HL
      obtain rfl := m1 rfl
      clear m1 m2
      go_wp2_with fail
      refine (ltoH a0 cap0 hs0 _ (hs_below h1 B2) n1).mono ?_
      rintro e u3 ⟨g3, rfl, lg3, R3, C3⟩
      have B3 := bel_tr B2 C3
      have K3 := K2.next C3
      obtain ⟨t0, t1, _, _, _⟩ := blk_two K3
      go_wp2_with fail
      refine (ltoFrac n3 d3 _).mono ?_
      rintro e u3b ⟨rfl, C3b⟩
      have B3b := bel_tr B3 C3b
      have K3b := K3.next C3b
      clear t0 t1
      go_wp2_with fail
      refine (CI _ _ _ (R3.next C3b).hs (Nat.le_refl _)).mono ?_
      rintro e u4 ⟨v, rfl, m1, m2, C4⟩
      obtain rfl := m1 rfl
      have B4 := bel_tr B3b C4
      have K4 := K3b.next C4
      clear m1 m2
      go_wp2_with fail
      refine (leqH none none 0 0 [] _ (.inl rfl) (.inl rfl) (by simp)).mono ?_
      rintro e u5 ⟨rfl, C5⟩
      have B5 := bel_tr B4 C5
      have K5 := K4.next C5
      go_wp2_with fail
      refine (ltoH a0 cap0 hs0 _ (hs_below h1 B5) n1).mono ?_
      rintro e u6 ⟨g6, rfl, lg6, R6, C6⟩
      have B6 := bel_tr B5 C6
      have K6 := K5.next C6
      go_wp2_with fail
      have R36 := ((((R3.next C3b).next C4).next C5).next C6)
      refine (leqH _ _ _ _ hs0 _ R36.hs R6.hs n1).mono ?_
      rintro e u7 ⟨rfl, C7⟩
      have B7 := bel_tr B6 C7
      have K7 := K6.next C7
      go_wp2_with fail
      have hl0 := flat_len hs0
      refine (lmarkH g3 _ hs0.length _ _ (R36.next C7) hl0 n1).mono ?_
      rintro e u8 ⟨rfl, F8, G8⟩
      have hg3 : w.heap.size < g3 := Nat.lt_of_lt_of_le K2.lt lg3
      have B8 := below_g B7 G8 (Nat.le_of_lt hg3)
      have K8 := K7.grown G8 (fun e => by injection e with e; omega)
      go_wp2_with fail
      refine (leqH none none 0 0 [] _ (.inl rfl) (.inl rfl) (by simp)).mono ?_
      rintro e u9 ⟨rfl, C9⟩
      have B9 := bel_tr B8 C9
      have K9 := K8.next C9
      go_wp2_with fail
      refine (lmarkH_nil _).mono ?_
      rintro e w' ⟨rfl, rfl⟩
      go_wp2_with fail
      refine (lheldH_nil _).mono ?_
      rintro e w' ⟨rfl, rfl⟩
      go_wp2_with fail
      have hO9 := hs_below h1 B9
      have hk0 := (blk_two K9).1
      have hk1 := (blk_two K9).2.1
      go_upto_region 24 with fail
      go_cut [18, 19] (fun sx sy wx => sy = .bool false ∧ (sx = .slice none 0 0) ∧ Below u9.heap.size u9 wx)
      case first =>
        go_region_held3 (fun w' => w'.cell? ⟨w.heap.size, 0, none⟩ = some (.int .i64 n3) ∧ w'.cell? ⟨w.heap.size, 1, none⟩ = some (.int .i64 d3) ∧ Below u9.heap.size u9 w') (first | (exact keepQ hb (by assumption)) | (refine ⟨?_, ?_, ?_⟩ <;> first | (go_keep; done) | exact (Below.refl _ _).drew))
          (first | (go_at_call 17; refine (ltoH a0 cap0 hs0 _ (hs_below hO9 (And.right (And.right (by assumption)))) n1).mono ?_; rintro e wq ⟨gq, rfl, lgq, Rq, hb⟩) | (go_at_call 24; refine (ltoFrac n3 d3 _).mono ?_; rintro e wq ⟨rfl, hb⟩) | (go_at_call 25; refine (CI _ _ _ (by first | exact Rq.hs | exact (Rq.next hb).hs) (Nat.le_refl _)).mono ?_; rintro e wq2 ⟨v, rfl, m1, m2, hb⟩))
        all_goals
          have hS := ‹_ ∧ _›
          go_wp2_with fail
          go_meet
          exact ⟨rfl, (by first | rfl | exact m1 rfl | exact m1 trivial), hS.2.2⟩
      case rest =>
        obtain ⟨rfl, rfl, C11⟩ := hcut
        have B11 := bel_tr B9 C11
        go_wp2_with fail
        refine (leqH none none 0 0 [] _ (.inl rfl) (.inl rfl) (by simp)).mono ?_
        rintro e u12 ⟨rfl, C12⟩
        have B12 := bel_tr B11 C12
        go_wp2_with fail
        refine (lheldH_nil _).mono ?_
        rintro e w' ⟨rfl, rfl⟩
        go_wp2_with fail
        go_ret
        exact ⟨rfl, B12⟩
    | true =>
      obtain ⟨hR0, nR⟩ := HL.out rfl
      clear HL
      obtain ⟨b2, c2, hv2, I2⟩ := m2 rfl
      subst hv2
      clear m1 m2
      go_wp2_with fail
      refine (ltoH a0 cap0 hs0 _ (hs_below h1 B2) n1).mono ?_
      rintro e u3 ⟨g3, rfl, lg3, R3, C3⟩
      have B3 := bel_tr B2 C3
      have K3 := K2.next C3
      obtain ⟨t0, t1, _, _, _⟩ := blk_two K3
      go_wp2_with fail
      refine (ltoFrac n3 d3 _).mono ?_
      rintro e u3b ⟨rfl, C3b⟩
      have B3b := bel_tr B3 C3b
      have K3b := K3.next C3b
      clear t0 t1
      go_wp2_with fail
      refine (CI _ _ _ (R3.next C3b).hs (Nat.le_refl _)).mono ?_
      rintro e u4 ⟨v, rfl, m1, m2, C4⟩
      have hO4 := m2 rfl
      rw [HR.out] at hO4
      rcases Flat.own (zs := flatH R) hO4 with ⟨_, hz⟩ | ⟨g4, c4, hv4, lg4, F4, hc4⟩
      · exact absurd hz (by omega)
      subst hv4
      have B4 := bel_tr B3b C4
      have K4 := K3b.next C4
      have D4 := bel_tr (bel_tr C3 C3b) C4
      have lt3 := Nat.lt_of_lt_of_le R3.lt C3b.size
      have w3 : w.heap.size < g3 := Nat.lt_of_lt_of_le K2.lt lg3
      have w4 : w.heap.size < g4 := Nat.lt_of_lt_of_le K3b.lt lg4
      have v4 : wc.heap.size ≤ g4 := Nat.le_trans (bel_tr C3 C3b).size lg4
      have ne43 : g4 ≠ g3 := by omega
      clear m1 m2 hO4
      go_wp2_with fail
      refine (leqH _ _ _ _ R _ F4.hs (hs_below I2 D4) nR).mono ?_
      rintro e u5 ⟨rfl, C5⟩
      have B5 := bel_tr B4 C5
      have D5 := bel_tr D4 C5
      have K5 := K4.next C5
      go_wp2_with fail
      refine (ltoH a0 cap0 hs0 _ (hs_below h1 B5) n1).mono ?_
      rintro e u6 ⟨g6, rfl, lg6, R6, C6⟩
      have B6 := bel_tr B5 C6
      have K6 := K5.next C6
      have D6 := bel_tr D5 C6
      go_wp2_with fail
      have R36 := ((((R3.next C3b).next C4).next C5).next C6)
      refine (leqH _ _ _ _ hs0 _ R36.hs R6.hs n1).mono ?_
      rintro e u7 ⟨rfl, C7⟩
      have B7 := bel_tr B6 C7
      have D7 := bel_tr D6 C7
      have K7 := K6.next C7
      have F7 := ((F4.next C5).next C6).next C7
      have R7 := R36.next C7
      clear F4 R3 R6 R36
      go_wp2_with fail
      have hl0 := flat_len hs0
      refine (lmarkH g3 _ hs0.length _ _ R7 hl0 n1).mono ?_
      rintro e u8 ⟨rfl, F8, G8⟩
      have B8 := below_g B7 G8 (Nat.le_of_lt w3)
      have D8 := below_g D7 G8 lg3
      have K8 := K7.grown G8 (fun e => by injection e with e; omega)
      have F48 := F7.apart G8 ne43
      clear F7 R7 F8 G8
      go_wp2_with fail
      refine (leqH _ _ _ _ R _ F48.hs (hs_below I2 D8) nR).mono ?_
      rintro e u9 ⟨rfl, C9⟩
      have B9 := bel_tr B8 C9
      have D9 := bel_tr D8 C9
      have K9 := K8.next C9
      go_wp2_with fail
      have hlR := flat_len R
      refine (lmarkH g4 _ R.length _ _ (F48.next C9) hlR nR).mono ?_
      rintro e u10 ⟨rfl, F10, G10⟩
      have B10 := below_g B9 G10 (Nat.le_of_lt w4)
      have D10 := below_g D9 G10 v4
      have K10 := K9.grown G10 (fun e => by injection e with e; omega)
      clear F48 G10 C9
      go_wp2_with fail
      refine (lheldH g4 _ R.length _ F10 nR).mono ?_
      rintro e w' ⟨rfl, rfl⟩
      go_wp2_with fail
      have hO10 := hs_below h1 B10
      have hk0 := (blk_two K10).1
      have hk1 := (blk_two K10).2.1
      go_upto_region 24 with fail
      go_cut [18, 19] (fun sx sy wx => sy = .bool true ∧ (∃ (b2 : Option Addr) (c2 : Nat), sx = .slice b2 R.length c2 ∧ IsHs wx b2 R) ∧ Below u10.heap.size u10 wx)
      case first =>
        go_region_held3 (fun w' => w'.cell? ⟨w.heap.size, 0, none⟩ = some (.int .i64 n3) ∧ w'.cell? ⟨w.heap.size, 1, none⟩ = some (.int .i64 d3) ∧ Below u10.heap.size u10 w') (first | (exact keepQ hb (by assumption)) | (refine ⟨?_, ?_, ?_⟩ <;> first | (go_keep; done) | exact (Below.refl _ _).drew))
          (first | (go_at_call 17; refine (ltoH a0 cap0 hs0 _ (hs_below hO10 (And.right (And.right (by assumption)))) n1).mono ?_; rintro e wq ⟨gq, rfl, lgq, Rq, hb⟩) | (go_at_call 24; refine (ltoFrac n3 d3 _).mono ?_; rintro e wq ⟨rfl, hb⟩) | (go_at_call 25; refine (CI _ _ _ (by first | exact Rq.hs | exact (Rq.next hb).hs) (Nat.le_refl _)).mono ?_; rintro e wq2 ⟨v, rfl, m1, m2, hb⟩))
        all_goals
          have hS := ‹_ ∧ _›
          go_wp2_with fail
          go_meet
          exact ⟨rfl, (by obtain ⟨b2, c2, hv2, I2, _⟩ := own_hs2 (m2 trivial); rw [HR.out] at hv2 I2; exact ⟨b2, c2, hv2, I2⟩), hS.2.2⟩
      case rest =>
        obtain ⟨rfl, ⟨b12, c12, hv12, I12⟩, C12⟩ := hcut
        subst hv12
        have B12 := bel_tr B10 C12
        have D12 := bel_tr D10 C12
        go_wp2_with fail
        refine (leqH _ _ _ _ R _ I12 (hs_below I2 D12) nR).mono ?_
        rintro e u13 ⟨rfl, C13⟩
        have B13 := bel_tr B12 C13
        go_wp2_with fail
        refine (lheldH g4 _ R.length _ ((F10.next C12).next C13) nR).mono ?_
        rintro e w' ⟨rfl, rfl⟩
        go_wp2_with fail
        go_ret
        exact ⟨rfl, B13⟩

set_option maxRecDepth 100000 in
theorem lifted (os : Os) (started : os.Started) (H : Type) (enc : TypeId × Value → H) :
    ReturnsInHanded {} Try.checked os 5 .any (Rows.fnExactSellShareSpec.pre6 enc Try.prog Try.f5 Rows.fnExactSellShareRow.domain false) (Rows.fnExactSellShareSpec.post enc Try.prog Try.f5 false true false false) := by
  refine returnsInHanded_of_change (C := Try.checked) own started (by kernel_rfl) Try.func5
    (ChangeSpec.witness6 (enc := enc) (C := Try.checked) false ⟨#[], #[.slice none 0 0, .int .i64 0, .int .i64 0, .agg #[.int .i64 0, .int .i64 0]], []⟩ 8 (by kernel_rfl) (by kernel_rfl) (by kernel_rfl) (by kernel_rfl)) ?_
  intro W base args ds gs before hval0 hW hcnd _
  have hval : ∀ (j : Nat) t v, Try.f5.params[j]? = some t → args[j]? = some v → Value.okWide Try.prog W .any base t v := hval0
  have hW' := hW
  obtain ⟨p, q, hA0, hV, rfl, hfz, hnd⟩ := hW
  have hA : DataW.TrodAll enc Try.prog W 0 (fun _ => true) true Try.f5.params.toList args.toList ds p := hA0
  rw [Try.params5] at hA hval
  obtain ⟨v0, vs0, e0, es0, p0, q0, hargs, rfl, rfl, h0, r0⟩ := trodAll_cons hA
  obtain ⟨v1, vs1, e1, es1, p1, q1, rfl, rfl, rfl, h1, r1⟩ := trodAll_cons r0
  obtain ⟨v2, vs2, e2, es2, p2, q2, rfl, rfl, rfl, h2, r2⟩ := trodAll_cons r1
  obtain ⟨v3, vs3, e3, es3, p3, q3, rfl, rfl, rfl, h3, r3⟩ := trodAll_cons r2
  obtain ⟨rfl, rfl, rfl⟩ := trodAll_nil r3
  obtain rfl : args = #[v0, v1, v2, v3] := by cases args; simp_all
  obtain ⟨rfl, rfl⟩ := trodVars_none hV
  have k0 := h0
  have lt0 : ∀ x ∈ p0, x.block < W.heap.size := by obtain ⟨m, hm⟩ := k0; exact DataW.trod_lt m _ _ _ hm
  obtain ⟨a0, len0, cap0, rfl⟩ := okWide_slice Try.underlying22 (hval 0 22 v0 rfl rfl)
  obtain ⟨hs0, w0⟩ : ∃ hs, HoldsIn W a0 len0 cap0 hs := by
    obtain ⟨fuel, hf⟩ := h0
    exact open_holds hf
  have k1 := h1
  have lt1 : ∀ x ∈ p1, x.block < W.heap.size := by obtain ⟨m, hm⟩ := k1; exact DataW.trod_lt m _ _ _ hm
  obtain ⟨a1, rfl, _, _, w1⟩ := open_int Try.underlying3 (hval 1 3 v1 rfl rfl) h1
  have k2 := h2
  have lt2 : ∀ x ∈ p2, x.block < W.heap.size := by obtain ⟨m, hm⟩ := k2; exact DataW.trod_lt m _ _ _ hm
  obtain ⟨a2, rfl, _, _, w2⟩ := open_int Try.underlying3 (hval 2 3 v2 rfl rfl) h2
  have k3 := h3
  have lt3 : ∀ x ∈ p3, x.block < W.heap.size := by obtain ⟨m, hm⟩ := k3; exact DataW.trod_lt m _ _ _ hm
  obtain ⟨c3, b3, y3, u3, m3, rfl, _, _, hy3, hu3⟩ := open_agg2 Try.underlying34 (by kernel_rfl) (by kernel_rfl) (hval 3 34 v3 rfl rfl) h3
  obtain ⟨n3, g3, _, w3⟩ := DataW.trod_int Try.underlying3 hy3
  obtain ⟨d3, j3, _, x3⟩ := DataW.trod_int Try.underlying3 hu3
  simp only [List.cons.injEq, and_true] at g3 j3
  subst g3 j3
  clear hA0 hval0
  refine (walk a0 len0 cap0 hs0 a1 a2 n3 d3 W w0 w1 w2 w3 x3).mono fun e W' ⟨he, bel⟩ => ?_
  subst he
  exact ⟨_, rfl, _, _, _, [], _, [], hW', trodAll_mk1 (shut_bool Try.underlying4 _), (trodAll_cons_mk (Below.trod laidOut (by kernel_rfl) (of_decide_eq_true (by kernel_rfl)) k0 bel lt0) (trodAll_cons_mk (Below.trod laidOut (by kernel_rfl) (of_decide_eq_true (by kernel_rfl)) k1 bel lt1) (trodAll_cons_mk (Below.trod laidOut (by kernel_rfl) (of_decide_eq_true (by kernel_rfl)) k2 bel lt2) (trodAll_cons_mk (Below.trod laidOut (by kernel_rfl) (of_decide_eq_true (by kernel_rfl)) k3 bel lt3) trodAll_mk0)))), rfl, bel.frame _, fun h => by cases h⟩

theorem over : Rows.fnExactSellShareRow.holds Try.pinned (OpenSpec.ofChange Rows.fnExactSellShareSpec) :=
  OpenClaim.holds_of_wide 5 Try.f5 rfl rfl rfl rfl rfl rfl rfl ⟨rfl, rfl, rfl, rfl, rfl⟩ rfl rfl rfl rfl rfl (by kernel_rfl) Try.func5 (by kernel_rfl)
    (of_decide_eq_true (by kernel_rfl)) (by unfold Func.isWrapper; first | (rw [if_pos (by decide +kernel)]; kernel_rfl) | (rw [if_neg (by decide +kernel)]; exact ⟨rfl, rfl⟩))
    (fun os started H enc _ => lifted os started H enc)

end Go.Proofs.Ytghfoceceomicaa.fnExactSellShare
namespace Go.Proofs.Ytghfoceceomicaa
/-- the statement -/
theorem fnExactSellShare_holds : Rows.FnExactSellShareSaid := fnExactSellShare.over
end Go.Proofs.Ytghfoceceomicaa
