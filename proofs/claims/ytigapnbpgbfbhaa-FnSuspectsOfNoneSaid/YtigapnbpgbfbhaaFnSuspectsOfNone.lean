/- For every input the law answers true, and its argument reads afterwards as before: honest people are not suspected. No condition. -/
import Derived.Test.YtigapnbpgbfbhaaRows
import Derived.Test.YtigapnbpgbfbhaaDrawTk
import Derived.Test.YtigapnbpgbfbhaaMeaJ
import Derived.Test.YtigapnbpgbfbhaaMeaQ
import Derived.Test.YtigapnbpgbfbhaaEqI
import Derived.Test.YtigapnbpgbfbhaaLawIn
import Derived.WalkKit
import Derived.Deep.RegionHeld3
import Derived.Deep.RegionWith
import Derived.Deep.QuietTactic
import Derived.BigQuiet
import Derived.RegionTactic
import Derived.ChangeAlike
import Derived.BigRegion
import Derived.ProofKit
import Derived.OpenShut
import Derived.ShutString
import Derived.ChangeOld
import Derived.Below
import Derived.Lib.SmallJoins
namespace Go.Proofs.Ytigapnbpgbfbhaa.fnSuspectsOfNone
open Go.ChangeShapes Go.WideShapes Go.ChangeAt Go.RowKit Go.Joins
open Go.ChangeMaps (open_string shut_string)
set_option linter.unusedVariables false
set_option linter.unusedSimpArgs false

theorem own : ownKnob Try.prog.godebug = none := by kernel_rfl
theorem laidOut : laidOutB Try.prog = true := by kernel_rfl

set_option maxRecDepth 100000 in
set_option maxHeartbeats 8000000 in
theorem walk (a0 : Option Addr) (len0 cap0 : Nat) (z0 : List Int) (w : World) (w0 : IsRow .u8 w a0 len0 cap0 z0) :
    Calls Try.prog 11 #[.slice a0 len0 cap0] w fun e w' => e = .returned (.bool true) ∧ Below w.heap.size w w' := by
  by_cases big : (1048576 : Int) < (len0 : Int)
  · go_enter Try.func11, Try.ntmps11
    go_wp2
    go_ret
    exact ⟨rfl, Below.refl _ _⟩
  go_enter Try.func11, Try.ntmps11
  go_wp2_with fail
  refine (drawMea a0 len0 cap0 z0 _ w0).mono ?_
  rintro e u1 ⟨b1, c1, xs, n, b2, c2, ms, rfl, l1, l10, hlc, IN, f0, f1, tl, tz, IM, B⟩
  clear w0 big
  have n1 : xs.length ≤ 1048576 := by omega
  have m1 : ms.length ≤ 1048576 := by omega
  have HTL := Lib.hid tl
  have HTZ := Lib.hid tz
  clear tl tz
  obtain ⟨V, hV⟩ : ∃ V, meaV xs n ms = V := ⟨_, rfl⟩
  have HI : Hid (∀  (W : World), (h1 : IsNd W b1 xs) → (h2 : IsInts W b2 ms) → Calls Try.prog 29 #[.slice b1 xs.length c1, .int .i64 n, .slice b2 ms.length c2] W (OutI W V)) := fun  W h1 h2 => by rw [← hV]; exact iMea b1 b2 c1 c2 xs n ms W h1 h2 n1 m1 hlc
  have HS : Hid (∀  (W : World), (h1 : IsNd W b1 xs) → (h2 : IsInts W b2 ms) → Calls Try.prog 28 #[.slice b1 xs.length c1, .int .i64 n, .slice b2 ms.length c2] W (OutI W V)) := fun  W h1 h2 => by rw [← hV]; exact sMea b1 b2 c1 c2 xs n ms W h1 h2 n1 m1
  cases hvm : vkB xs n ms with
  | false =>
    have e0 : ((V.length : Int) == 0) = true := by rw [← hV, meaV_no hvm]; rfl
    have e1 : (V.length == 0) = true := by rw [← hV, meaV_no hvm]; rfl
    have hVl : V.length ≤ 1048576 := by rw [← hV, meaV_no hvm]; simp
    have HQ : Hid (∀ (b : Option Addr) (b' : Option Addr) (c : Nat) (c' : Nat) (W : World), (h1 : IsInts W b V) → (h2 : IsInts W b' V) → Calls Try.prog 31 #[.slice b V.length c, .slice b' V.length c'] W (fun e w' => e = .returned (.bool true) ∧ Below W.heap.size W w')) := fun b b' c c' W h1 h2 => eqInts b b' c c' V W h1 h2 hVl
    clear hV hvm hVl
    go_wp2_with fail
    refine (HI.out _ IN IM).mono ?_
    rintro e u2_ ⟨vo, rfl, Oo, C_⟩
    obtain ⟨bo, co, rfl, Io⟩ := Oo.ints
    clear Oo
    replace B := bel_tr B C_
    replace IN := nd_below IN C_
    replace IM := ints_below IM C_
    clear C_
    go_wp2_with fail
    refine (HS.out _ IN IM).mono ?_
    rintro e u3_ ⟨vp, rfl, Op, C_⟩
    obtain ⟨bp, cp, rfl, Ip⟩ := Op.ints
    clear Op
    replace B := bel_tr B C_
    replace IN := nd_below IN C_
    replace IM := ints_below IM C_
    replace Io := ints_below Io C_
    clear C_
    go_wp2_with fail
    refine (HQ.out _ _ _ _ _ Io Ip).mono ?_
    rintro e u4_ ⟨rfl, C_⟩
    replace B := bel_tr B C_
    replace IN := nd_below IN C_
    replace IM := ints_below IM C_
    replace Io := ints_below Io C_
    replace Ip := ints_below Ip C_
    clear C_
    go_wp2_with fail
    clear Ip
    refine (HS.out _ IN IM).mono ?_
    rintro e u5_ ⟨vq, rfl, Oq, C_⟩
    obtain ⟨bq, cq, rfl, Iq⟩ := Oq.ints
    clear Oq
    replace B := bel_tr B C_
    replace IN := nd_below IN C_
    replace IM := ints_below IM C_
    replace Io := ints_below Io C_
    clear C_
    go_wp2_with fail
    refine (HQ.out _ _ _ _ _ Io Iq).mono ?_
    rintro e u6_ ⟨rfl, C_⟩
    replace B := bel_tr B C_
    replace IN := nd_below IN C_
    replace IM := ints_below IM C_
    replace Io := ints_below Io C_
    replace Iq := ints_below Iq C_
    clear C_
    go_wp2_with fail
    go_ret
    exact ⟨rfl, B⟩
  | true =>
  rw [meaV_yes hvm] at hV
  have hVl : V.length = xs.length := by rw [← hV, meaF_len]
  have e0 : ((V.length : Int) == 0) = false := beq_eq_false_iff_ne.2 (by omega)
  have e1 : (V.length == 0) = false := beq_eq_false_iff_ne.2 (by omega)
  have HQ : Hid (∀ (b : Option Addr) (b' : Option Addr) (c : Nat) (c' : Nat) (W : World), (h1 : IsInts W b V) → (h2 : IsInts W b' V) → Calls Try.prog 31 #[.slice b V.length c, .slice b' V.length c'] W (fun e w' => e = .returned (.bool true) ∧ Below W.heap.size W w')) := fun b b' c c' W h1 h2 => eqInts b b' c c' V W h1 h2 (by omega)
  obtain ⟨hvm2, hn0, hn1⟩ := vk_is hvm
  obtain ⟨hv, hml, hma⟩ := vm_is hvm2
  have HMB : Hid (∀ j, 0 ≤ ms.getD j 0 ∧ ms.getD j 0 ≤ 500) := allM_get hma
  have HV := Lib.hid hv
  have hmk := run_make_row' (P := Try.prog) 23 3 (.int .i64 0) 8 Try.underlying23 infoInt rfl .i64 .i64 xs.length (by omega) (by omega)
  have HMK := Lib.hid hmk
  obtain ⟨T, hT⟩ : ∃ T, comeF xs n = T := ⟨_, rfl⟩
  have hTl : T.length ≤ 1048576 := by rw [← hT, comeF_len]; exact n1
  have hTV : vmB xs T = true := by rw [← hT]; exact come_all hv ⟨hn0, hn1⟩
  have hTS : susV xs T 0 = [] := by
    rw [susV_yes (vs_yes hTV (Int.le_refl _) (by decide))]
    exact susTo_nil _ (fun j hj => by rw [← hT, mis_honest hv n hj]; omega)
  have HF : Hid (∀  (W : World), (h1 : IsNd W b1 xs) → Calls Try.prog 32 #[.slice b1 xs.length c1, .int .i64 n] W (OutI W T)) := fun  W h1 => by have h := iFlows b1 c1 xs n W h1 n1 hlc; rw [flow_yes (show flB xs n = true from by unfold flB; rw [hv, decide_eq_true hn0, decide_eq_true hn1]; rfl), hT] at h; exact h
  have HTS : Hid (∀ (b : Option Addr) (c : Nat) (W : World), (h1 : IsNd W b1 xs) → (h2 : IsInts W b T) → Calls Try.prog 27 #[.slice b1 xs.length c1, .slice b T.length c, .int .i64 0] W (OutI W [])) := fun b c W h1 h2 => by have h := iSus b1 b c1 c xs T 0 W h1 h2 n1 hTl hlc; rw [hTS] at h; exact h
  have HX : Hid (∀ (z : Int) (k : Nat) (b : Option Addr) (c : Nat) (W : World), (h0 : vkB xs n (oneT xs.length k z) = true) → (h1 : IsNd W b1 xs) → (h2 : IsInts W b (oneT xs.length k z)) → Calls Try.prog 29 #[.slice b1 xs.length c1, .int .i64 n, .slice b xs.length c] W (OutI W (meaF xs n (oneT xs.length k z)))) := fun z k b c W h0 h1 h2 => by have h := iMea b1 b c1 c xs n (oneT xs.length k z) W h1 h2 n1 (by rw [oneT_len]; exact n1) hlc; rw [meaV_yes h0, oneT_len] at h; exact h
  have HY : Hid (∀ (M : List Int) (b : Option Addr) (c : Nat) (W : World), (h0 : vmB xs M = true) → (h1 : IsNd W b1 xs) → (h2 : IsInts W b M) → Calls Try.prog 27 #[.slice b1 xs.length c1, .slice b M.length c, .int .i64 0] W (OutI W (susTo (misF xs M) 0 xs.length))) := fun M b c W h0 h1 h2 => by have h := iSus b1 b c1 c xs M 0 W h1 h2 n1 (by rw [(vm_is h0).2.1]; exact n1) hlc; rw [susV_yes (vs_yes h0 (Int.le_refl _) (by decide))] at h; exact h
  clear hV hvm hvm2 hv hml hma hT hTV hTS hVl hmk hn0
  go_wp2_with fail
  refine (HI.out _ IN IM).mono ?_
  rintro e u2_ ⟨vo, rfl, Oo, C_⟩
  obtain ⟨bo, co, rfl, Io⟩ := Oo.ints
  clear Oo
  replace B := bel_tr B C_
  replace IN := nd_below IN C_
  replace IM := ints_below IM C_
  clear C_
  go_wp2_with fail
  refine (HS.out _ IN IM).mono ?_
  rintro e u3_ ⟨vp, rfl, Op, C_⟩
  obtain ⟨bp, cp, rfl, Ip⟩ := Op.ints
  clear Op
  replace B := bel_tr B C_
  replace IN := nd_below IN C_
  replace IM := ints_below IM C_
  replace Io := ints_below Io C_
  clear C_
  go_wp2_with fail
  refine (HQ.out _ _ _ _ _ Io Ip).mono ?_
  rintro e u4_ ⟨rfl, C_⟩
  replace B := bel_tr B C_
  replace IN := nd_below IN C_
  replace IM := ints_below IM C_
  replace Io := ints_below Io C_
  replace Ip := ints_below Ip C_
  clear C_
  go_wp2_with fail
  clear Ip
  clear HI HS
  have HIM := Lib.hid IM
  have HIN2 := Lib.hid IN
  have HB0 := Lib.hid B
  clear B IN IM Io HQ
  go_loopw [7] (fun i wr => ∃ k : Nat, 1 ≤ k ∧ k ≤ xs.length ∧ i = .int .i64 k ∧ Below u4_.heap.size u4_ wr) (fun i _ => xs.length - (intOf i).toNat)
  case atStart => exact ⟨1, Nat.le_refl _, l1, rfl, Below.refl _ _⟩
  case round =>
    obtain ⟨k, hk1, hk, rfl, hB⟩ := hrel
    by_cases hlt : k < xs.length
    · have k0 : (0 : Int) ≤ (k : Int) := by omega
      have k1 : (k : Int) < (xs.length : Int) := by omega
      have k2 : (k : Int) < (ms.length : Int) := by have := HTL.out; omega
      have hkm : k < ms.length := by have := HTL.out; omega
      have IN := nd_below HIN2.out hB
      have am := ints_below HIM.out hB
      have bt := HMB.out k
      have hmk := HMK.out
      rcases am with hnil | ⟨gm, om, rfl, hm⟩
      · rw [hnil] at hkm; exact absurd hkm (Nat.not_lt_zero _)
      have xm := hm k hkm
      have hM := OwnI.made (Below.refl wr.heap.size wr) xs.length n1
      have hz := hM.cell (j := k) (by rw [List.length_replicate]; exact hlt)
      rw [repl_get] at hz
      have hzf := hM.frozen k
      have hO := hM.set_ k (ms.getD k 0)
      have xm2 := (((Below.refl wr.heap.size wr).alloc (Nat.le_refl _) (.cells (madeCells #[.int .i64 0] xs.length) 3)).cell (World.block_lt_of_cell? wr _ xm)).trans xm
      have HVK := Lib.hid (oneT_vk HV.out ⟨f0, hn1⟩ hlt bt)
      have HSO := Lib.hid (sus_one HV.out ⟨f0, hn1⟩ hlt bt)
      have HMO := Lib.hid (mea_one HV.out ⟨f0, hn1⟩ hlt (by omega) bt.1)
      change OwnI _ _ _ (oneT xs.length k (ms.getD k 0)) at hO
      obtain ⟨t, hteq⟩ : ∃ t, ms.getD k 0 = t := ⟨_, rfl⟩
      rw [hteq] at xm xm2 hO bt HVK HSO HMO
      have HTQ := Lib.hid hteq
      clear hteq
      have hB0 : Below wr.heap.size wr ((wr.alloc (.cells (madeCells #[.int .i64 0] xs.length) 3)).setCell ⟨wr.heap.size, k, none⟩ (.int .i64 t)) := ((Below.refl wr.heap.size wr).alloc (Nat.le_refl _) _).setCell (p := ⟨wr.heap.size, k, none⟩) (Nat.le_refl _) _
      rw [World.setCell_alloc_at _ _ _ _ _ rfl] at hO hB0
      obtain ⟨W2, hW2⟩ : ∃ W2, wr.alloc (.cells ((madeCells #[.int .i64 0] xs.length).setIfInBounds k (.int .i64 t)) 3) = W2 := ⟨_, rfl⟩
      rw [hW2] at hO hB0
      have HW2 := Lib.hid hW2
      obtain ⟨g1, hg1⟩ : ∃ g1, wr.heap.size = g1 := ⟨_, rfl⟩
      have hOi := hO.at_
      rw [hg1] at hOi hz hzf
      have IN2 := nd_below IN hB0
      have CX := HX.out t k (some ⟨g1, 0, none⟩) xs.length W2 HVK.out IN2 hOi
      have HB2 := Lib.hid (bel_tr hB hB0)
      have HIN3 := Lib.hid IN2
      have HM2 : Hid (IsInts wr (some ⟨gm, om, none⟩) ms) := .inr ⟨gm, om, rfl, hm⟩
      have HM3 := Lib.hid (ints_below HM2.out hB0)
      clear hM hO hB0 hOi IN IN2 hB hm xm hW2
      go_wp2_with fail
      rw [HW2.out]
      refine CX.mono ?_
      rintro e w3 ⟨v, rfl, O, C⟩
      obtain ⟨bM, cM, rfl, IO⟩ := O.ints
      have CY := HY.out _ bM cM w3 (mea_all HVK.out) (nd_below HIN3.out C) IO
      have HB3 := Lib.hid (bel_tr HB2.out C)
      have HM4 := Lib.hid (ints_below HM3.out C)
      clear O C IO CX hz hzf hmk xm2 hg1
      have hML := meaF_len xs n (oneT xs.length k t)
      have HS1 := HSO.out
      generalize susTo (misF xs (meaF xs n (oneT xs.length k t))) 0 xs.length = S1 at CY HS1
      generalize meaF xs n (oneT xs.length k t) = M1 at CY
      clear hML
      have HS2 := Lib.hid HS1
      clear HS1 HSO HMO
      go_wp2_with fail
      refine CY.mono ?_
      rintro e w4 ⟨v, rfl, O, C⟩
      obtain ⟨bS, cS, rfl, IS⟩ := O.ints
      have HB4 := Lib.hid (bel_tr HB3.out C)
      have hm4 := ints_below HM4.out C
      clear O C CY
      rcases hm4 with hnil | ⟨gq, oq, hgq, hm⟩
      · rw [hnil] at hkm; exact absurd hkm (Nat.not_lt_zero _)
      injection hgq with hgq
      injection hgq with q1 q2
      subst q1 q2
      rcases HS2.out with e | ⟨e, ht⟩
      · rw [e]
        go_wp2_with fail
        go_roundw
        case rel => exact ⟨k + 1, by omega, by omega, by go_num, HB4.out⟩
        case measure => simp [intOf]; omega
      · rw [e] at IS ⊢
        rcases IS with hnil | ⟨gs, os, rfl, hs⟩
        · cases hnil
        have xs0 := hs 0 (by show 0 < 1; omega)
        rw [show os + 0 = os from rfl] at xs0
        change w4.cell? ⟨gs, os, none⟩ = some (.int .i64 (k : Int)) at xs0
        have xt := hm k hkm
        have ht2 : ¬ ms.getD k 0 = 0 := by rw [HTQ.out]; exact ht
        clear hs hm
        generalize ms.getD k 0 = t2 at xt ht2
        have e5 : (t2 == 0) = false := beq_eq_false_iff_ne.2 ht2
        go_wp2_with fail
        go_roundw
        case rel => exact ⟨k + 1, by omega, by omega, by go_num, HB4.out⟩
        case measure => simp [intOf]; omega
    · obtain rfl : k = xs.length := by omega
      have B := bel_tr HB0.out hB
      have IN := nd_below HIN2.out hB
      clear hB
      go_wp2_with fail
      refine (HF.out _ IN).mono ?_
      rintro e u5_ ⟨v7, rfl, O7, C_⟩
      obtain ⟨b7, c7, rfl, I7⟩ := O7.ints
      clear O7
      replace B := bel_tr B C_
      replace IN := nd_below IN C_
      clear C_
      go_wp2_with fail
      refine (HTS.out _ _ _ IN I7).mono ?_
      rintro e u6_ ⟨v8, rfl, O8, C_⟩
      obtain ⟨b8, c8, rfl, I8⟩ := O8.ints
      clear O8
      replace B := bel_tr B C_
      replace IN := nd_below IN C_
      replace I7 := ints_below I7 C_
      clear C_
      go_wp2_with fail
      go_ret
      exact ⟨rfl, B⟩

set_option maxRecDepth 100000 in
theorem lifted (os : Os) (started : os.Started) (H : Type) (enc : TypeId × Value → H) :
    ReturnsInHanded {} Try.checked os 11 .any (Rows.fnSuspectsOfNoneSpec.pre6 enc Try.prog Try.f11 Rows.fnSuspectsOfNoneRow.domain false) (Rows.fnSuspectsOfNoneSpec.post enc Try.prog Try.f11 false true false false) := by
  refine returnsInHanded_of_change (C := Try.checked) own started (by kernel_rfl) Try.func11
    (ChangeSpec.witness6 (enc := enc) (C := Try.checked) false ⟨#[], #[.slice none 0 0], []⟩ 8 (by kernel_rfl) (by kernel_rfl) (by kernel_rfl) (by kernel_rfl)) ?_
  intro W base args ds gs before hval0 hW hcnd _
  have hval : ∀ (j : Nat) t v, Try.f11.params[j]? = some t → args[j]? = some v → Value.okWide Try.prog W .any base t v := hval0
  have hW' := hW
  obtain ⟨p, q, hA0, hV, rfl, hfz, hnd⟩ := hW
  have hA : DataW.TrodAll enc Try.prog W 0 (fun _ => true) true Try.f11.params.toList args.toList ds p := hA0
  rw [Try.params11] at hA hval
  obtain ⟨v0, vs0, e0, es0, p0, q0, hargs, rfl, rfl, h0, r0⟩ := trodAll_cons hA
  obtain ⟨rfl, rfl, rfl⟩ := trodAll_nil r0
  obtain rfl : args = #[v0] := by cases args; simp_all
  obtain ⟨rfl, rfl⟩ := trodVars_none hV
  have k0 := h0
  have lt0 : ∀ x ∈ p0, x.block < W.heap.size := by obtain ⟨m, hm⟩ := k0; exact DataW.trod_lt m _ _ _ hm
  obtain ⟨a0, len0, cap0, rfl⟩ := okWide_slice Try.underlying38 (hval 0 38 v0 rfl rfl)
  obtain ⟨z0, w0⟩ : ∃ zs, IsRow .u8 W a0 len0 cap0 zs := by
    obtain ⟨fuel, hf⟩ := h0
    rcases open_ints Try.underlying38 Try.underlying5 (by kernel_rfl) hf with ⟨hcs, _⟩ | ⟨x, l, c, zs, hcs, _, hl, hm, hz, _, hcell, hwz⟩
    · simp [Value.cells] at hcs
      obtain ⟨rfl, rfl, rfl⟩ := hcs
      exact ⟨[], .inl ⟨rfl, rfl, rfl, rfl⟩⟩
    · simp [Value.cells] at hcs
      obtain ⟨rfl, rfl, rfl⟩ := hcs
      exact ⟨zs, .inr ⟨_, rfl, hl, hm, by simpa using hz, hcell, hwz⟩⟩
  clear hA0 hval0
  refine (walk a0 len0 cap0 z0 W w0).mono fun e W' ⟨he, bel⟩ => ?_
  subst he
  exact ⟨_, rfl, _, _, _, [], _, [], hW', trodAll_mk1 (shut_bool Try.underlying4 _), (trodAll_cons_mk (Below.trod laidOut (by kernel_rfl) (of_decide_eq_true (by kernel_rfl)) k0 bel lt0) trodAll_mk0), rfl, bel.frame _, fun h => by cases h⟩

theorem over : Rows.fnSuspectsOfNoneRow.holds Try.pinned (OpenSpec.ofChange Rows.fnSuspectsOfNoneSpec) :=
  OpenClaim.holds_of_wide 11 Try.f11 rfl rfl rfl rfl rfl rfl rfl ⟨rfl, rfl, rfl, rfl, rfl⟩ rfl rfl rfl rfl rfl (by kernel_rfl) Try.func11 (by kernel_rfl)
    (of_decide_eq_true (by kernel_rfl)) (by unfold Func.isWrapper; first | (rw [if_pos (by decide +kernel)]; kernel_rfl) | (rw [if_neg (by decide +kernel)]; exact ⟨rfl, rfl⟩))
    (fun os started H enc _ => lifted os started H enc)

end Go.Proofs.Ytigapnbpgbfbhaa.fnSuspectsOfNone
namespace Go.Proofs.Ytigapnbpgbfbhaa
/-- the statement -/
theorem fnSuspectsOfNone_holds : Rows.FnSuspectsOfNoneSaid := fnSuspectsOfNone.over
end Go.Proofs.Ytigapnbpgbfbhaa
