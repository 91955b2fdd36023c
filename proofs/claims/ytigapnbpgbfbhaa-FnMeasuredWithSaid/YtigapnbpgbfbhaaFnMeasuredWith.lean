/- For every input the law answers true, and its argument reads afterwards as before: who takes nothing changes nothing. No condition. -/
import Derived.Test.YtigapnbpgbfbhaaRows
import Derived.Test.YtigapnbpgbfbhaaDrawTk
import Derived.Test.YtigapnbpgbfbhaaMeaJ
import Derived.Test.YtigapnbpgbfbhaaMeaQ
import Derived.Test.YtigapnbpgbfbhaaEqI
import Derived.Test.YtigapnbpgbfbhaaLawIn
import Derived.WalkKit
import Derived.Deep.RegionHeld3
import Derived.Deep.RegionWith
import Derived.Deep.QuietTactic
import Derived.BigQuiet
import Derived.RegionTactic
import Derived.ChangeAlike
import Derived.BigRegion
import Derived.ProofKit
import Derived.OpenShut
import Derived.ShutString
import Derived.ChangeOld
import Derived.Below
import Derived.Lib.SmallJoins
namespace Go.Proofs.Ytigapnbpgbfbhaa.fnMeasuredWith
open Go.ChangeShapes Go.WideShapes Go.ChangeAt Go.RowKit Go.Joins
open Go.ChangeMaps (open_string shut_string)
set_option linter.unusedVariables false
set_option linter.unusedSimpArgs false

theorem own : ownKnob Try.prog.godebug = none := by kernel_rfl
theorem laidOut : laidOutB Try.prog = true := by kernel_rfl

set_option maxRecDepth 100000 in
set_option maxHeartbeats 8000000 in
theorem walk (a0 : Option Addr) (len0 cap0 : Nat) (z0 : List Int) (w : World) (w0 : IsRow .u8 w a0 len0 cap0 z0) :
    Calls Try.prog 12 #[.slice a0 len0 cap0] w fun e w' => e = .returned (.bool true) ∧ Below w.heap.size w w' := by
  by_cases big : (1048576 : Int) < (len0 : Int)
  · go_enter Try.func12, Try.ntmps12
    go_wp2
    go_ret
    exact ⟨rfl, Below.refl _ _⟩
  go_enter Try.func12, Try.ntmps12
  go_wp2_with fail
  refine (drawMea a0 len0 cap0 z0 _ w0).mono ?_
  rintro e u1 ⟨b1, c1, xs, n, b2, c2, ms, rfl, l1, l10, hlc, IN, f0, f1, tl, tz, IM, B⟩
  clear w0 big
  have n1 : xs.length ≤ 1048576 := by omega
  have m1 : ms.length ≤ 1048576 := by omega
  have HTL := Lib.hid tl
  have HTZ := Lib.hid tz
  clear tl tz
  obtain ⟨V, hV⟩ : ∃ V, meaV xs n ms = V := ⟨_, rfl⟩
  have HI : Hid (∀  (W : World), (h1 : IsNd W b1 xs) → (h2 : IsInts W b2 ms) → Calls Try.prog 29 #[.slice b1 xs.length c1, .int .i64 n, .slice b2 ms.length c2] W (OutI W V)) := fun  W h1 h2 => by rw [← hV]; exact iMea b1 b2 c1 c2 xs n ms W h1 h2 n1 m1 hlc
  have HS : Hid (∀  (W : World), (h1 : IsNd W b1 xs) → (h2 : IsInts W b2 ms) → Calls Try.prog 28 #[.slice b1 xs.length c1, .int .i64 n, .slice b2 ms.length c2] W (OutI W V)) := fun  W h1 h2 => by rw [← hV]; exact sMea b1 b2 c1 c2 xs n ms W h1 h2 n1 m1
  cases hvm : vkB xs n ms with
  | false =>
    have e0 : ((V.length : Int) == 0) = true := by rw [← hV, meaV_no hvm]; rfl
    have e1 : (V.length == 0) = true := by rw [← hV, meaV_no hvm]; rfl
    have hVl : V.length ≤ 1048576 := by rw [← hV, meaV_no hvm]; simp
    have HQ : Hid (∀ (b : Option Addr) (b' : Option Addr) (c : Nat) (c' : Nat) (W : World), (h1 : IsInts W b V) → (h2 : IsInts W b' V) → Calls Try.prog 31 #[.slice b V.length c, .slice b' V.length c'] W (fun e w' => e = .returned (.bool true) ∧ Below W.heap.size W w')) := fun b b' c c' W h1 h2 => eqInts b b' c c' V W h1 h2 hVl
    clear hV hvm hVl
    go_wp2_with fail
    refine (HI.out _ IN IM).mono ?_
    rintro e u2_ ⟨vo, rfl, Oo, C_⟩
    obtain ⟨bo, co, rfl, Io⟩ := Oo.ints
    clear Oo
    replace B := bel_tr B C_
    replace IN := nd_below IN C_
    replace IM := ints_below IM C_
    clear C_
    go_wp2_with fail
    refine (HS.out _ IN IM).mono ?_
    rintro e u3_ ⟨vp, rfl, Op, C_⟩
    obtain ⟨bp, cp, rfl, Ip⟩ := Op.ints
    clear Op
    replace B := bel_tr B C_
    replace IN := nd_below IN C_
    replace IM := ints_below IM C_
    replace Io := ints_below Io C_
    clear C_
    go_wp2_with fail
    refine (HQ.out _ _ _ _ _ Io Ip).mono ?_
    rintro e u4_ ⟨rfl, C_⟩
    replace B := bel_tr B C_
    replace IN := nd_below IN C_
    replace IM := ints_below IM C_
    replace Io := ints_below Io C_
    replace Ip := ints_below Ip C_
    clear C_
    go_wp2_with fail
    clear Ip
    refine (HS.out _ IN IM).mono ?_
    rintro e u5_ ⟨vq, rfl, Oq, C_⟩
    obtain ⟨bq, cq, rfl, Iq⟩ := Oq.ints
    clear Oq
    replace B := bel_tr B C_
    replace IN := nd_below IN C_
    replace IM := ints_below IM C_
    replace Io := ints_below Io C_
    clear C_
    go_wp2_with fail
    refine (HQ.out _ _ _ _ _ Io Iq).mono ?_
    rintro e u6_ ⟨rfl, C_⟩
    replace B := bel_tr B C_
    replace IN := nd_below IN C_
    replace IM := ints_below IM C_
    replace Io := ints_below Io C_
    replace Iq := ints_below Iq C_
    clear C_
    go_wp2_with fail
    go_ret
    exact ⟨rfl, B⟩
  | true =>
  rw [meaV_yes hvm] at hV
  have hVl : V.length = xs.length := by rw [← hV, meaF_len]
  have e0 : ((V.length : Int) == 0) = false := beq_eq_false_iff_ne.2 (by omega)
  have e1 : (V.length == 0) = false := beq_eq_false_iff_ne.2 (by omega)
  have HQ : Hid (∀ (b : Option Addr) (b' : Option Addr) (c : Nat) (c' : Nat) (W : World), (h1 : IsInts W b V) → (h2 : IsInts W b' V) → Calls Try.prog 31 #[.slice b V.length c, .slice b' V.length c'] W (fun e w' => e = .returned (.bool true) ∧ Below W.heap.size W w')) := fun b b' c c' W h1 h2 => eqInts b b' c c' V W h1 h2 (by omega)
  obtain ⟨hvm2, hn0, hn1⟩ := vk_is hvm
  obtain ⟨hv, hml, hma⟩ := vm_is hvm2
  have HMB : Hid (∀ j, 0 ≤ ms.getD j 0 ∧ ms.getD j 0 ≤ 500) := allM_get hma
  have HV := Lib.hid hv
  have hmk := run_make_row' (P := Try.prog) 23 3 (.int .i64 0) 8 Try.underlying23 infoInt rfl .i64 .i64 xs.length (by omega) (by omega)
  have HMK := Lib.hid hmk
  obtain ⟨T, hT⟩ : ∃ T, comeF xs n = T := ⟨_, rfl⟩
  have hTL : T.length = xs.length := by rw [← hT, comeF_len]
  have HTLL := Lib.hid hTL
  have HTB : Hid (∀ j, 0 ≤ T.getD j 0 ∧ T.getD j 0 ≤ 500) := fun j => by rw [← hT]; exact come_bd hv ⟨hn0, hn1⟩ j
  have HTC := Lib.hid hT
  have HF : Hid (∀  (W : World), (h1 : IsNd W b1 xs) → Calls Try.prog 32 #[.slice b1 xs.length c1, .int .i64 n] W (OutI W T)) := fun  W h1 => by have h := iFlows b1 c1 xs n W h1 n1 hlc; rw [flow_yes (show flB xs n = true from by unfold flB; rw [hv, decide_eq_true hn0, decide_eq_true hn1]; rfl), hT] at h; exact h
  have HX : Hid (∀ (z : Int) (k : Nat) (b : Option Addr) (c : Nat) (W : World), (h0 : vkB xs n (oneT xs.length k z) = true) → (h1 : IsNd W b1 xs) → (h2 : IsInts W b (oneT xs.length k z)) → Calls Try.prog 29 #[.slice b1 xs.length c1, .int .i64 n, .slice b xs.length c] W (OutI W (meaF xs n (oneT xs.length k z)))) := fun z k b c W h0 h1 h2 => by have h := iMea b1 b c1 c xs n (oneT xs.length k z) W h1 h2 n1 (by rw [oneT_len]; exact n1) hlc; rw [meaV_yes h0, oneT_len] at h; exact h
  have HZ : Hid (∀ (b : Option Addr) (c : Nat) (W : World), (h1 : IsNd W b1 xs) → (h2 : IsInts W b (List.replicate xs.length 0)) → Calls Try.prog 29 #[.slice b1 xs.length c1, .int .i64 n, .slice b xs.length c] W (OutI W T)) := fun b c W h1 h2 => by have h := iMea b1 b c1 c xs n (List.replicate xs.length 0) W h1 h2 n1 (by rw [List.length_replicate]; exact n1) hlc; rw [meaV_yes (zeroT_vk hv ⟨hn0, hn1⟩), mea_nothing hv ⟨hn0, hn1⟩, hT, List.length_replicate] at h; exact h
  have HTQ : Hid (∀ (b : Option Addr) (b' : Option Addr) (c : Nat) (c' : Nat) (W : World), (h1 : IsInts W b T) → (h2 : IsInts W b' T) → Calls Try.prog 31 #[.slice b T.length c, .slice b' T.length c'] W (fun e w' => e = .returned (.bool true) ∧ Below W.heap.size W w')) := fun b b' c c' W h1 h2 => eqInts b b' c c' T W h1 h2 (by omega)
  clear hV hvm hvm2 hv hml hma hT hTL hVl hmk hn0
  go_wp2_with fail
  refine (HI.out _ IN IM).mono ?_
  rintro e u2_ ⟨vo, rfl, Oo, C_⟩
  obtain ⟨bo, co, rfl, Io⟩ := Oo.ints
  clear Oo
  replace B := bel_tr B C_
  replace IN := nd_below IN C_
  replace IM := ints_below IM C_
  clear C_
  go_wp2_with fail
  refine (HS.out _ IN IM).mono ?_
  rintro e u3_ ⟨vp, rfl, Op, C_⟩
  obtain ⟨bp, cp, rfl, Ip⟩ := Op.ints
  clear Op
  replace B := bel_tr B C_
  replace IN := nd_below IN C_
  replace IM := ints_below IM C_
  replace Io := ints_below Io C_
  clear C_
  go_wp2_with fail
  refine (HQ.out _ _ _ _ _ Io Ip).mono ?_
  rintro e u4_ ⟨rfl, C_⟩
  replace B := bel_tr B C_
  replace IN := nd_below IN C_
  replace IM := ints_below IM C_
  replace Io := ints_below Io C_
  replace Ip := ints_below Ip C_
  clear C_
  go_wp2_with fail
  clear Ip
  clear HI HS
  refine (HF.out _ IN).mono ?_
  rintro e u5_ ⟨v7, rfl, O7, C_⟩
  obtain ⟨b7, c7, rfl, I7⟩ := O7.ints
  clear O7
  replace B := bel_tr B C_
  replace IN := nd_below IN C_
  replace IM := ints_below IM C_
  replace Io := ints_below Io C_
  clear C_
  go_wp2_with fail
  have HIM := Lib.hid IM
  have HIN2 := Lib.hid IN
  have HI7 := Lib.hid I7
  have HB0 := Lib.hid B
  clear B IN IM Io I7 HQ HF
  go_loopw [8] (fun i wr => ∃ k : Nat, 1 ≤ k ∧ k ≤ xs.length ∧ i = .int .i64 k ∧ Below u5_.heap.size u5_ wr) (fun i _ => xs.length - (intOf i).toNat)
  case atStart => exact ⟨1, Nat.le_refl _, l1, rfl, Below.refl _ _⟩
  case round =>
    obtain ⟨k, hk1, hk, rfl, hB⟩ := hrel
    by_cases hlt : k < xs.length
    · have k0 : (0 : Int) ≤ (k : Int) := by omega
      have k1 : (k : Int) < (xs.length : Int) := by omega
      have k2 : (k : Int) < (ms.length : Int) := by have := HTL.out; omega
      have hkm : k < ms.length := by have := HTL.out; omega
      have IN := nd_below HIN2.out hB
      have am := ints_below HIM.out hB
      have bt := HMB.out k
      have hmk := HMK.out
      rcases am with hnil | ⟨gm, om, rfl, hm⟩
      · rw [hnil] at hkm; exact absurd hkm (Nat.not_lt_zero _)
      have xm := hm k hkm
      have hM := OwnI.made (Below.refl wr.heap.size wr) xs.length n1
      have hz := hM.cell (j := k) (by rw [List.length_replicate]; exact hlt)
      rw [repl_get] at hz
      have hzf := hM.frozen k
      have hO := hM.set_ k (ms.getD k 0)
      have xm2 := (((Below.refl wr.heap.size wr).alloc (Nat.le_refl _) (.cells (madeCells #[.int .i64 0] xs.length) 3)).cell (World.block_lt_of_cell? wr _ xm)).trans xm
      have HVK := Lib.hid (oneT_vk HV.out ⟨f0, hn1⟩ hlt bt)
      have HSO := Lib.hid (sus_one HV.out ⟨f0, hn1⟩ hlt bt)
      have HMO := Lib.hid (mea_one HV.out ⟨f0, hn1⟩ hlt (by omega) bt.1)
      change OwnI _ _ _ (oneT xs.length k (ms.getD k 0)) at hO
      obtain ⟨t, hteq⟩ : ∃ t, ms.getD k 0 = t := ⟨_, rfl⟩
      rw [hteq] at xm xm2 hO bt HVK HSO HMO
      clear hteq
      have hB0 : Below wr.heap.size wr ((wr.alloc (.cells (madeCells #[.int .i64 0] xs.length) 3)).setCell ⟨wr.heap.size, k, none⟩ (.int .i64 t)) := ((Below.refl wr.heap.size wr).alloc (Nat.le_refl _) _).setCell (p := ⟨wr.heap.size, k, none⟩) (Nat.le_refl _) _
      have a7 := ints_below HI7.out hB
      have hk7 : k < T.length := by have := HTLL.out; omega
      rcases a7 with hnil | ⟨g7, o7, rfl, h7⟩
      · rw [hnil] at hk7; exact absurd hk7 (Nat.not_lt_zero _)
      have k7 : (k : Int) < (T.length : Int) := by omega
      have x7 := h7 k hk7
      have bc := HTB.out k
      rw [HTC.out] at HMO
      generalize T.getD k 0 = c at x7 bc HMO
      rw [World.setCell_alloc_at _ _ _ _ _ rfl] at hO hB0
      obtain ⟨W2, hW2⟩ : ∃ W2, wr.alloc (.cells ((madeCells #[.int .i64 0] xs.length).setIfInBounds k (.int .i64 t)) 3) = W2 := ⟨_, rfl⟩
      rw [hW2] at hO hB0
      have HW2 := Lib.hid hW2
      obtain ⟨g1, hg1⟩ : ∃ g1, wr.heap.size = g1 := ⟨_, rfl⟩
      have hOi := hO.at_
      rw [hg1] at hOi hz hzf
      have IN2 := nd_below IN hB0
      have xt := (hB0.cell (World.block_lt_of_cell? wr _ xm)).trans xm
      have xc := (hB0.cell (World.block_lt_of_cell? wr _ x7)).trans x7
      have hXM : Hid (∀ W, Below W2.heap.size W2 W → Calls Try.prog 29 #[.slice b1 xs.length c1, .int .i64 n, .slice (some ⟨g1, 0, none⟩) xs.length xs.length] W (OutI W (meaF xs n (oneT xs.length k t)))) := fun W hW => HX.out t k (some ⟨g1, 0, none⟩) xs.length W HVK.out (nd_below IN2 hW) (ints_below hOi hW)
      have HB2 := Lib.hid (bel_tr hB hB0)
      have hML : (meaF xs n (oneT xs.length k t)).length = xs.length := meaF_len _ _ _
      clear hM hO hB0 hOi IN IN2 hB hm xm hW2 h7 x7 HSO hkm hk7
      generalize meaF xs n (oneT xs.length k t) = M1 at hXM HMO hML
      have HML := Lib.hid hML
      have hm1 : k < M1.length := by omega
      have hm2 : (k : Int) < (M1.length : Int) := by omega
      clear hML
      by_cases p : c ≤ t
      · have HMO2 : Hid (M1.getD k 0 = 0) := by show _ = _; rw [HMO.out]; omega
        clear HMO
        have wz : IntKind.i64.wrap (c - c) = 0 := by rw [IntKind.wrap_i64]; omega
        have wz0 : IntKind.i64.wrap 0 = 0 := rfl
        go_wp2_with fail
        rw [HW2.out]
        clear hz hzf hmk hg1 xm2
        have HMK1 := Lib.hid (fun (W : World) (hW : Below W2.heap.size W2 W) => (⟨⟨(hW.cell (p := ⟨g7, o7 + k, none⟩) (World.block_lt_of_cell? _ _ xc)).trans xc, (hW.cell (p := ⟨gm, om + k, none⟩) (World.block_lt_of_cell? _ _ xt)).trans xt⟩, hW⟩ : (W.cell? ⟨g7, o7 + k, none⟩ = some (.int .i64 c) ∧ W.cell? ⟨gm, om + k, none⟩ = some (.int .i64 t)) ∧ Below W2.heap.size W2 W))
        refine wp_region_held_drew (S := (fun w' => (w'.cell? ⟨g7, o7 + k, none⟩ = some (.int .i64 c) ∧ w'.cell? ⟨gm, om + k, none⟩ = some (.int .i64 t)) ∧ Below W2.heap.size W2 w')) (by kernel_rfl) ?_ (fun hHeld => ?_)
        · exact ⟨⟨xc, xt⟩, (Below.refl _ _).drew⟩
        refine wpAnyH_take (i := 0) (oi := ?ooa2_) (v := ?vva2_) ?hia2_ (by kernel_rfl) ?h3a2_ ?h4a2_ ?h5a2_ ?h6a2_ (by assumption) ?h8a2_
        case hia2_ => (simp only [List.getElem?_toArray, List.getElem?_cons_succ, List.getElem?_cons_zero]; rfl)
        case h3a2_ => kernel_rfl
        case h4a2_ => kernel_rfl
        case h6a2_ => (refine Or.inl ⟨by rfl, ?_⟩; intro w hSw; (try dsimp only at hSw); (go_simp <;> with_reducible rfl))
        case h5a2_ => exact fun _ _ _ h => h
        try simp only [Act.put, List.setIfInBounds_toArray, List.set_cons_zero, List.set_cons_succ]
        refine wpAnyH_take (i := 1) (oi := ?ooa3_) (v := ?vva3_) ?hia3_ (by kernel_rfl) ?h3a3_ ?h4a3_ ?h5a3_ ?h6a3_ (by assumption) ?h8a3_
        case hia3_ => (simp only [List.getElem?_toArray, List.getElem?_cons_succ, List.getElem?_cons_zero]; rfl)
        case h3a3_ => kernel_rfl
        case h4a3_ => kernel_rfl
        case h6a3_ => (refine Or.inl ⟨by rfl, ?_⟩; intro w hSw; (try dsimp only at hSw); (go_simp <;> with_reducible rfl))
        case h5a3_ => exact fun _ _ _ h => h
        try simp only [Act.put, List.setIfInBounds_toArray, List.set_cons_zero, List.set_cons_succ]
        refine wpAnyH_take (i := 2) (oi := ?ooa4_) (v := ?vva4_) ?hia4_ (by kernel_rfl) ?h3a4_ ?h4a4_ ?h5a4_ ?h6a4_ (by assumption) ?h8a4_
        case hia4_ => (simp only [List.getElem?_toArray, List.getElem?_cons_succ, List.getElem?_cons_zero]; rfl)
        case h3a4_ => kernel_rfl
        case h4a4_ => kernel_rfl
        case h6a4_ => (refine Or.inl ⟨by rfl, ?_⟩; intro w hSw; (try dsimp only at hSw); (go_simp <;> with_reducible rfl))
        case h5a4_ => exact fun _ _ _ h => h
        try simp only [Act.put, List.setIfInBounds_toArray, List.set_cons_zero, List.set_cons_succ]
        refine wpAnyH_take (i := 4) (oi := ?ooa5_) (v := ?vva5_) ?hia5_ (by kernel_rfl) ?h3a5_ ?h4a5_ ?h5a5_ ?h6a5_ (by assumption) ?h8a5_
        case hia5_ => (simp only [List.getElem?_toArray, List.getElem?_cons_succ, List.getElem?_cons_zero]; rfl)
        case h3a5_ => kernel_rfl
        case h4a5_ => kernel_rfl
        case h6a5_ => (refine Or.inl ⟨by rfl, ?_⟩; intro w hSw; (try dsimp only at hSw); (go_simp <;> with_reducible rfl))
        case h5a5_ => exact fun _ _ _ h => h
        try simp only [Act.put, List.setIfInBounds_toArray, List.set_cons_zero, List.set_cons_succ]
        refine wpAnyH_take (i := 7) (oi := ?ooa6_) (v := ?vva6_) ?hia6_ (by kernel_rfl) ?h3a6_ ?h4a6_ ?h5a6_ ?h6a6_ (by assumption) ?h8a6_
        case hia6_ => (simp only [List.getElem?_toArray, List.getElem?_cons_succ, List.getElem?_cons_zero]; rfl)
        case h3a6_ => kernel_rfl
        case h4a6_ => kernel_rfl
        case h6a6_ => (refine Or.inl ⟨by rfl, ?_⟩; intro w hSw; (try dsimp only at hSw); (go_simp <;> with_reducible rfl))
        case h5a6_ => exact fun _ _ _ h => h
        try simp only [Act.put, List.setIfInBounds_toArray, List.set_cons_zero, List.set_cons_succ]
        refine wpAnyH_take (i := 8) (oi := ?ooa7_) (v := ?vva7_) ?hia7_ (by kernel_rfl) ?h3a7_ ?h4a7_ ?h5a7_ ?h6a7_ (by assumption) ?h8a7_
        case hia7_ => (simp only [List.getElem?_toArray, List.getElem?_cons_succ, List.getElem?_cons_zero]; rfl)
        case h3a7_ => kernel_rfl
        case h4a7_ => kernel_rfl
        case h6a7_ => (refine Or.inl ⟨by rfl, ?_⟩; intro w hSw; (try dsimp only at hSw); (go_simp <;> with_reducible rfl))
        case h5a7_ => exact fun _ _ _ h => h
        try simp only [Act.put, List.setIfInBounds_toArray, List.set_cons_zero, List.set_cons_succ]
        refine wpAnyH_take (i := 9) (oi := ?ooa8_) (v := ?vva8_) ?hia8_ (by kernel_rfl) ?h3a8_ ?h4a8_ ?h5a8_ ?h6a8_ (by assumption) ?h8a8_
        case hia8_ => (simp only [List.getElem?_toArray, List.getElem?_cons_succ, List.getElem?_cons_zero]; rfl)
        case h3a8_ => kernel_rfl
        case h4a8_ => kernel_rfl
        case h6a8_ => (refine Or.inl ⟨by rfl, ?_⟩; intro w hSw; (try dsimp only at hSw); (go_simp <;> with_reducible rfl))
        case h5a8_ => exact fun _ _ _ h => h
        try simp only [Act.put, List.setIfInBounds_toArray, List.set_cons_zero, List.set_cons_succ]
        refine wpAnyH_take (i := 10) (oi := ?ooa9_) (v := ?vva9_) ?hia9_ (by kernel_rfl) ?h3a9_ ?h4a9_ ?h5a9_ ?h6a9_ (by assumption) ?h8a9_
        case hia9_ => (simp only [List.getElem?_toArray, List.getElem?_cons_succ, List.getElem?_cons_zero]; rfl)
        case h3a9_ => kernel_rfl
        case h4a9_ => kernel_rfl
        case h6a9_ => (refine Or.inl ⟨by rfl, ?_⟩; intro w hSw; (try dsimp only at hSw); (go_simp <;> with_reducible rfl))
        case h5a9_ => exact fun _ _ _ h => h
        try simp only [Act.put, List.setIfInBounds_toArray, List.set_cons_zero, List.set_cons_succ]
        refine wpAnyH_take (i := 11) (oi := ?ooa10_) (v := ?vva10_) ?hia10_ (by kernel_rfl) ?h3a10_ ?h4a10_ ?h5a10_ ?h6a10_ (by assumption) ?h8a10_
        case hia10_ => (simp only [List.getElem?_toArray, List.getElem?_cons_succ, List.getElem?_cons_zero]; rfl)
        case h3a10_ => kernel_rfl
        case h4a10_ => kernel_rfl
        case h6a10_ => (refine Or.inl ⟨by rfl, ?_⟩; intro w hSw; (try dsimp only at hSw); (go_simp <;> with_reducible rfl))
        case h5a10_ => exact fun _ _ _ h => h
        try simp only [Act.put, List.setIfInBounds_toArray, List.set_cons_zero, List.set_cons_succ]
        refine wpAnyH_take (i := 12) (oi := ?ooa11_) (v := ?vva11_) ?hia11_ (by kernel_rfl) ?h3a11_ ?h4a11_ ?h5a11_ ?h6a11_ (by assumption) ?h8a11_
        case hia11_ => (simp only [List.getElem?_toArray, List.getElem?_cons_succ, List.getElem?_cons_zero]; rfl)
        case h3a11_ => kernel_rfl
        case h4a11_ => kernel_rfl
        case h6a11_ => (refine Or.inl ⟨by rfl, ?_⟩; intro w hSw; (try dsimp only at hSw); (go_simp <;> with_reducible rfl))
        case h5a11_ => exact fun _ _ _ h => h
        try simp only [Act.put, List.setIfInBounds_toArray, List.set_cons_zero, List.set_cons_succ]
        refine wpAnyH_take (i := 13) (oi := ?ooa12_) (v := ?vva12_) ?hia12_ (by kernel_rfl) ?h3a12_ ?h4a12_ ?h5a12_ ?h6a12_ (by assumption) ?h8a12_
        case hia12_ => (simp only [List.getElem?_toArray, List.getElem?_cons_succ, List.getElem?_cons_zero]; rfl)
        case h3a12_ => kernel_rfl
        case h4a12_ => kernel_rfl
        case h6a12_ => (refine Or.inl ⟨by rfl, ?_⟩; intro w hSw; (try dsimp only at hSw); (go_simp <;> with_reducible rfl))
        case h5a12_ => exact fun _ _ _ h => h
        try simp only [Act.put, List.setIfInBounds_toArray, List.set_cons_zero, List.set_cons_succ]
        refine wpAnyH_take (i := 14) (oi := ?ooa13_) (v := ?vva13_) ?hia13_ (by kernel_rfl) ?h3a13_ ?h4a13_ ?h5a13_ ?h6a13_ (by assumption) ?h8a13_
        case hia13_ => (simp only [List.getElem?_toArray, List.getElem?_cons_succ, List.getElem?_cons_zero]; rfl)
        case h3a13_ => kernel_rfl
        case h4a13_ => kernel_rfl
        case h6a13_ => (refine Or.inl ⟨by rfl, ?_⟩; intro w hSw; (try dsimp only at hSw); (go_simp <;> with_reducible rfl))
        case h5a13_ => exact fun _ _ _ h => h
        try simp only [Act.put, List.setIfInBounds_toArray, List.set_cons_zero, List.set_cons_succ]
        refine wpAnyH_take (i := 15) (oi := ?ooa14_) (v := ?vva14_) ?hia14_ (by kernel_rfl) ?h3a14_ ?h4a14_ ?h5a14_ ?h6a14_ (by assumption) ?h8a14_
        case hia14_ => (simp only [List.getElem?_toArray, List.getElem?_cons_succ, List.getElem?_cons_zero]; rfl)
        case h3a14_ => kernel_rfl
        case h4a14_ => kernel_rfl
        case h6a14_ => (refine Or.inl ⟨by rfl, ?_⟩; intro w hSw; (try dsimp only at hSw); (go_simp <;> with_reducible rfl))
        case h5a14_ => exact fun _ _ _ h => h
        try simp only [Act.put, List.setIfInBounds_toArray, List.set_cons_zero, List.set_cons_succ]
        refine wpAnyH_take (i := 16) (oi := ?ooa15_) (v := ?vva15_) ?hia15_ (by kernel_rfl) ?h3a15_ ?h4a15_ ?h5a15_ ?h6a15_ (by assumption) ?h8a15_
        case hia15_ => (simp only [List.getElem?_toArray, List.getElem?_cons_succ, List.getElem?_cons_zero]; rfl)
        case h3a15_ => kernel_rfl
        case h4a15_ => kernel_rfl
        case h6a15_ => (refine Or.inl ⟨by rfl, ?_⟩; intro w hSw; (try dsimp only at hSw); (go_simp <;> with_reducible rfl))
        case h5a15_ => exact fun _ _ _ h => h
        try simp only [Act.put, List.setIfInBounds_toArray, List.set_cons_zero, List.set_cons_succ]
        refine wpAnyH_take (i := 17) (oi := ?ooa16_) (v := ?vva16_) ?hia16_ (by kernel_rfl) ?h3a16_ ?h4a16_ ?h5a16_ ?h6a16_ (by assumption) ?h8a16_
        case hia16_ => (simp only [List.getElem?_toArray, List.getElem?_cons_succ, List.getElem?_cons_zero]; rfl)
        case h3a16_ => kernel_rfl
        case h4a16_ => kernel_rfl
        case h6a16_ => (refine Or.inl ⟨by rfl, ?_⟩; intro w hSw; (try dsimp only at hSw); (go_simp <;> with_reducible rfl))
        case h5a16_ => exact fun _ _ _ h => h
        try simp only [Act.put, List.setIfInBounds_toArray, List.set_cons_zero, List.set_cons_succ]
        refine wpAnyH_take (i := 18) (oi := ?ooa17_) (v := ?vva17_) ?hia17_ (by kernel_rfl) ?h3a17_ ?h4a17_ ?h5a17_ ?h6a17_ (by assumption) ?h8a17_
        case hia17_ => (simp only [List.getElem?_toArray, List.getElem?_cons_succ, List.getElem?_cons_zero]; rfl)
        case h3a17_ => kernel_rfl
        case h4a17_ => kernel_rfl
        case h6a17_ => (refine Or.inl ⟨by rfl, ?_⟩; intro w hSw; (try dsimp only at hSw); (go_simp <;> with_reducible rfl))
        case h5a17_ => exact fun _ _ _ h => h
        try simp only [Act.put, List.setIfInBounds_toArray, List.set_cons_zero, List.set_cons_succ]
        refine wpAnyH_take (i := 19) (oi := ?ooa18_) (v := ?vva18_) ?hia18_ (by kernel_rfl) ?h3a18_ ?h4a18_ ?h5a18_ ?h6a18_ (by assumption) ?h8a18_
        case hia18_ => (simp only [List.getElem?_toArray, List.getElem?_cons_succ, List.getElem?_cons_zero]; rfl)
        case h3a18_ => kernel_rfl
        case h4a18_ => kernel_rfl
        case h6a18_ => (refine Or.inl ⟨by rfl, ?_⟩; intro w hSw; (try dsimp only at hSw); (go_simp <;> with_reducible rfl))
        case h5a18_ => exact fun _ _ _ h => h
        try simp only [Act.put, List.setIfInBounds_toArray, List.set_cons_zero, List.set_cons_succ]
        refine wpAnyH_take (i := 20) (oi := ?ooa19_) (v := ?vva19_) ?hia19_ (by kernel_rfl) ?h3a19_ ?h4a19_ ?h5a19_ ?h6a19_ (by assumption) ?h8a19_
        case hia19_ => (simp only [List.getElem?_toArray, List.getElem?_cons_succ, List.getElem?_cons_zero]; rfl)
        case h3a19_ => kernel_rfl
        case h4a19_ => kernel_rfl
        case h6a19_ => (refine Or.inl ⟨by rfl, ?_⟩; intro w hSw; (try dsimp only at hSw); (go_simp <;> with_reducible rfl))
        case h5a19_ => exact fun _ _ _ h => h
        try simp only [Act.put, List.setIfInBounds_toArray, List.set_cons_zero, List.set_cons_succ]
        refine wpAnyH_ready (rs := [3]) (by kernel_rfl) (by simp) (AllReadyH.cons (o := ?ooa20_q0) ?hia20_q0 (fun K hK => ?hka20_q0) AllReadyH.nil)
        case hia20_q0 => (simp only [List.getElem?_toArray, List.getElem?_cons_succ, List.getElem?_cons_zero]; rfl)
        case hka20_q0 =>
          (rw [if_pos (by rfl)]; go_simp; refine (hXM.out _ hHeld.2).mono ?_; rintro e q3 ⟨vM, rfl, OM, hb⟩; obtain ⟨bM, cM, rfl, _⟩ := OM.ints; obtain ⟨gM, rfl, _⟩ := OM.form_ (by omega); have kp := OM.cell (j := k) hm1; rw [HMO2.out] at kp; clear OM; go_wp2_with fail; refine hK.out _ _ (HMK1.out _ (bel_tr hHeld.2 hb)) (fun hHeld => ?_); clear hK K)
          try simp only [Act.put, List.setIfInBounds_toArray, List.set_cons_zero, List.set_cons_succ]
          refine wpAnyH_take (i := 5) (oi := ?ooa21_) (v := ?vva21_) ?hia21_ (by kernel_rfl) ?h3a21_ ?h4a21_ ?h5a21_ ?h6a21_ (by assumption) ?h8a21_
          case hia21_ => (simp only [List.getElem?_toArray, List.getElem?_cons_succ, List.getElem?_cons_zero]; rfl)
          case h3a21_ => kernel_rfl
          case h4a21_ => kernel_rfl
          case h6a21_ => (refine Or.inl ⟨by rfl, ?_⟩; intro w hSw; (try dsimp only at hSw); (go_simp <;> with_reducible rfl))
          case h5a21_ => exact fun _ _ _ h => h
          try simp only [Act.put, List.setIfInBounds_toArray, List.set_cons_zero, List.set_cons_succ]
          refine wpAnyH_ready (rs := [6]) (by kernel_rfl) (by simp) (AllReadyH.cons (o := ?ooa22_q0) ?hia22_q0 (fun K hK => ?hka22_q0) AllReadyH.nil)
          case hia22_q0 => (simp only [List.getElem?_toArray, List.getElem?_cons_succ, List.getElem?_cons_zero]; rfl)
          case hka22_q0 =>
            (rw [if_pos (by rfl)]; go_simp; refine hK.out _ _ (hHeld) (fun hHeld => ?_); clear hK K)
            try simp only [Act.put, List.setIfInBounds_toArray, List.set_cons_zero, List.set_cons_succ]
            refine wpAnyH_take (i := 21) (oi := ?ooa23_) (v := ?vva23_) ?hia23_ (by kernel_rfl) ?h3a23_ ?h4a23_ ?h5a23_ ?h6a23_ (by assumption) ?h8a23_
            case hia23_ => (simp only [List.getElem?_toArray, List.getElem?_cons_succ, List.getElem?_cons_zero]; rfl)
            case h3a23_ => kernel_rfl
            case h4a23_ => kernel_rfl
            case h6a23_ => (refine Or.inl ⟨by rfl, ?_⟩; intro w hSw; (try dsimp only at hSw); (go_simp <;> with_reducible rfl))
            case h5a23_ => exact fun _ _ _ h => h
            try simp only [Act.put, List.setIfInBounds_toArray, List.set_cons_zero, List.set_cons_succ]
            refine wpAnyH_done (by kernel_rfl) ?_ _
            clear HMK1
            have HBX := Lib.hid (bel_tr HB2.out hHeld.2)
            clear hHeld
            go_wp2_with fail
            go_roundw
            case rel => exact ⟨k + 1, by omega, by omega, by go_num, HBX.out⟩
            case measure => simp [intOf]; omega
      · have HMO2 : Hid (M1.getD k 0 = c - t) := by show _ = _; rw [HMO.out]; omega
        clear HMO
        have wz : IntKind.i64.wrap (c - t) = c - t := by rw [IntKind.wrap_i64]; omega
        go_wp2_with fail
        rw [HW2.out]
        clear hz hzf hmk hg1 xm2
        have HMK24 := Lib.hid (fun (W : World) (hW : Below W2.heap.size W2 W) => (⟨⟨(hW.cell (p := ⟨g7, o7 + k, none⟩) (World.block_lt_of_cell? _ _ xc)).trans xc, (hW.cell (p := ⟨gm, om + k, none⟩) (World.block_lt_of_cell? _ _ xt)).trans xt⟩, hW⟩ : (W.cell? ⟨g7, o7 + k, none⟩ = some (.int .i64 c) ∧ W.cell? ⟨gm, om + k, none⟩ = some (.int .i64 t)) ∧ Below W2.heap.size W2 W))
        refine wp_region_held_drew (S := (fun w' => (w'.cell? ⟨g7, o7 + k, none⟩ = some (.int .i64 c) ∧ w'.cell? ⟨gm, om + k, none⟩ = some (.int .i64 t)) ∧ Below W2.heap.size W2 w')) (by kernel_rfl) ?_ (fun hHeld => ?_)
        · exact ⟨⟨xc, xt⟩, (Below.refl _ _).drew⟩
        refine wpAnyH_take (i := 0) (oi := ?ooa25_) (v := ?vva25_) ?hia25_ (by kernel_rfl) ?h3a25_ ?h4a25_ ?h5a25_ ?h6a25_ (by assumption) ?h8a25_
        case hia25_ => (simp only [List.getElem?_toArray, List.getElem?_cons_succ, List.getElem?_cons_zero]; rfl)
        case h3a25_ => kernel_rfl
        case h4a25_ => kernel_rfl
        case h6a25_ => (refine Or.inl ⟨by rfl, ?_⟩; intro w hSw; (try dsimp only at hSw); (go_simp <;> with_reducible rfl))
        case h5a25_ => exact fun _ _ _ h => h
        try simp only [Act.put, List.setIfInBounds_toArray, List.set_cons_zero, List.set_cons_succ]
        refine wpAnyH_take (i := 1) (oi := ?ooa26_) (v := ?vva26_) ?hia26_ (by kernel_rfl) ?h3a26_ ?h4a26_ ?h5a26_ ?h6a26_ (by assumption) ?h8a26_
        case hia26_ => (simp only [List.getElem?_toArray, List.getElem?_cons_succ, List.getElem?_cons_zero]; rfl)
        case h3a26_ => kernel_rfl
        case h4a26_ => kernel_rfl
        case h6a26_ => (refine Or.inl ⟨by rfl, ?_⟩; intro w hSw; (try dsimp only at hSw); (go_simp <;> with_reducible rfl))
        case h5a26_ => exact fun _ _ _ h => h
        try simp only [Act.put, List.setIfInBounds_toArray, List.set_cons_zero, List.set_cons_succ]
        refine wpAnyH_take (i := 2) (oi := ?ooa27_) (v := ?vva27_) ?hia27_ (by kernel_rfl) ?h3a27_ ?h4a27_ ?h5a27_ ?h6a27_ (by assumption) ?h8a27_
        case hia27_ => (simp only [List.getElem?_toArray, List.getElem?_cons_succ, List.getElem?_cons_zero]; rfl)
        case h3a27_ => kernel_rfl
        case h4a27_ => kernel_rfl
        case h6a27_ => (refine Or.inl ⟨by rfl, ?_⟩; intro w hSw; (try dsimp only at hSw); (go_simp <;> with_reducible rfl))
        case h5a27_ => exact fun _ _ _ h => h
        try simp only [Act.put, List.setIfInBounds_toArray, List.set_cons_zero, List.set_cons_succ]
        refine wpAnyH_take (i := 4) (oi := ?ooa28_) (v := ?vva28_) ?hia28_ (by kernel_rfl) ?h3a28_ ?h4a28_ ?h5a28_ ?h6a28_ (by assumption) ?h8a28_
        case hia28_ => (simp only [List.getElem?_toArray, List.getElem?_cons_succ, List.getElem?_cons_zero]; rfl)
        case h3a28_ => kernel_rfl
        case h4a28_ => kernel_rfl
        case h6a28_ => (refine Or.inl ⟨by rfl, ?_⟩; intro w hSw; (try dsimp only at hSw); (go_simp <;> with_reducible rfl))
        case h5a28_ => exact fun _ _ _ h => h
        try simp only [Act.put, List.setIfInBounds_toArray, List.set_cons_zero, List.set_cons_succ]
        refine wpAnyH_take (i := 7) (oi := ?ooa29_) (v := ?vva29_) ?hia29_ (by kernel_rfl) ?h3a29_ ?h4a29_ ?h5a29_ ?h6a29_ (by assumption) ?h8a29_
        case hia29_ => (simp only [List.getElem?_toArray, List.getElem?_cons_succ, List.getElem?_cons_zero]; rfl)
        case h3a29_ => kernel_rfl
        case h4a29_ => kernel_rfl
        case h6a29_ => (refine Or.inl ⟨by rfl, ?_⟩; intro w hSw; (try dsimp only at hSw); (go_simp <;> with_reducible rfl))
        case h5a29_ => exact fun _ _ _ h => h
        try simp only [Act.put, List.setIfInBounds_toArray, List.set_cons_zero, List.set_cons_succ]
        refine wpAnyH_take (i := 8) (oi := ?ooa30_) (v := ?vva30_) ?hia30_ (by kernel_rfl) ?h3a30_ ?h4a30_ ?h5a30_ ?h6a30_ (by assumption) ?h8a30_
        case hia30_ => (simp only [List.getElem?_toArray, List.getElem?_cons_succ, List.getElem?_cons_zero]; rfl)
        case h3a30_ => kernel_rfl
        case h4a30_ => kernel_rfl
        case h6a30_ => (refine Or.inl ⟨by rfl, ?_⟩; intro w hSw; (try dsimp only at hSw); (go_simp <;> with_reducible rfl))
        case h5a30_ => exact fun _ _ _ h => h
        try simp only [Act.put, List.setIfInBounds_toArray, List.set_cons_zero, List.set_cons_succ]
        refine wpAnyH_take (i := 9) (oi := ?ooa31_) (v := ?vva31_) ?hia31_ (by kernel_rfl) ?h3a31_ ?h4a31_ ?h5a31_ ?h6a31_ (by assumption) ?h8a31_
        case hia31_ => (simp only [List.getElem?_toArray, List.getElem?_cons_succ, List.getElem?_cons_zero]; rfl)
        case h3a31_ => kernel_rfl
        case h4a31_ => kernel_rfl
        case h6a31_ => (refine Or.inl ⟨by rfl, ?_⟩; intro w hSw; (try dsimp only at hSw); (go_simp <;> with_reducible rfl))
        case h5a31_ => exact fun _ _ _ h => h
        try simp only [Act.put, List.setIfInBounds_toArray, List.set_cons_zero, List.set_cons_succ]
        refine wpAnyH_take (i := 10) (oi := ?ooa32_) (v := ?vva32_) ?hia32_ (by kernel_rfl) ?h3a32_ ?h4a32_ ?h5a32_ ?h6a32_ (by assumption) ?h8a32_
        case hia32_ => (simp only [List.getElem?_toArray, List.getElem?_cons_succ, List.getElem?_cons_zero]; rfl)
        case h3a32_ => kernel_rfl
        case h4a32_ => kernel_rfl
        case h6a32_ => (refine Or.inl ⟨by rfl, ?_⟩; intro w hSw; (try dsimp only at hSw); (go_simp <;> with_reducible rfl))
        case h5a32_ => exact fun _ _ _ h => h
        try simp only [Act.put, List.setIfInBounds_toArray, List.set_cons_zero, List.set_cons_succ]
        refine wpAnyH_take (i := 11) (oi := ?ooa33_) (v := ?vva33_) ?hia33_ (by kernel_rfl) ?h3a33_ ?h4a33_ ?h5a33_ ?h6a33_ (by assumption) ?h8a33_
        case hia33_ => (simp only [List.getElem?_toArray, List.getElem?_cons_succ, List.getElem?_cons_zero]; rfl)
        case h3a33_ => kernel_rfl
        case h4a33_ => kernel_rfl
        case h6a33_ => (refine Or.inl ⟨by rfl, ?_⟩; intro w hSw; (try dsimp only at hSw); (go_simp <;> with_reducible rfl))
        case h5a33_ => exact fun _ _ _ h => h
        try simp only [Act.put, List.setIfInBounds_toArray, List.set_cons_zero, List.set_cons_succ]
        refine wpAnyH_take (i := 12) (oi := ?ooa34_) (v := ?vva34_) ?hia34_ (by kernel_rfl) ?h3a34_ ?h4a34_ ?h5a34_ ?h6a34_ (by assumption) ?h8a34_
        case hia34_ => (simp only [List.getElem?_toArray, List.getElem?_cons_succ, List.getElem?_cons_zero]; rfl)
        case h3a34_ => kernel_rfl
        case h4a34_ => kernel_rfl
        case h6a34_ => (refine Or.inl ⟨by rfl, ?_⟩; intro w hSw; (try dsimp only at hSw); (go_simp <;> with_reducible rfl))
        case h5a34_ => exact fun _ _ _ h => h
        try simp only [Act.put, List.setIfInBounds_toArray, List.set_cons_zero, List.set_cons_succ]
        refine wpAnyH_take (i := 13) (oi := ?ooa35_) (v := ?vva35_) ?hia35_ (by kernel_rfl) ?h3a35_ ?h4a35_ ?h5a35_ ?h6a35_ (by assumption) ?h8a35_
        case hia35_ => (simp only [List.getElem?_toArray, List.getElem?_cons_succ, List.getElem?_cons_zero]; rfl)
        case h3a35_ => kernel_rfl
        case h4a35_ => kernel_rfl
        case h6a35_ => (refine Or.inl ⟨by rfl, ?_⟩; intro w hSw; (try dsimp only at hSw); (go_simp <;> with_reducible rfl))
        case h5a35_ => exact fun _ _ _ h => h
        try simp only [Act.put, List.setIfInBounds_toArray, List.set_cons_zero, List.set_cons_succ]
        refine wpAnyH_take (i := 14) (oi := ?ooa36_) (v := ?vva36_) ?hia36_ (by kernel_rfl) ?h3a36_ ?h4a36_ ?h5a36_ ?h6a36_ (by assumption) ?h8a36_
        case hia36_ => (simp only [List.getElem?_toArray, List.getElem?_cons_succ, List.getElem?_cons_zero]; rfl)
        case h3a36_ => kernel_rfl
        case h4a36_ => kernel_rfl
        case h6a36_ => (refine Or.inl ⟨by rfl, ?_⟩; intro w hSw; (try dsimp only at hSw); (go_simp <;> with_reducible rfl))
        case h5a36_ => exact fun _ _ _ h => h
        try simp only [Act.put, List.setIfInBounds_toArray, List.set_cons_zero, List.set_cons_succ]
        refine wpAnyH_take (i := 15) (oi := ?ooa37_) (v := ?vva37_) ?hia37_ (by kernel_rfl) ?h3a37_ ?h4a37_ ?h5a37_ ?h6a37_ (by assumption) ?h8a37_
        case hia37_ => (simp only [List.getElem?_toArray, List.getElem?_cons_succ, List.getElem?_cons_zero]; rfl)
        case h3a37_ => kernel_rfl
        case h4a37_ => kernel_rfl
        case h6a37_ => (refine Or.inl ⟨by rfl, ?_⟩; intro w hSw; (try dsimp only at hSw); (go_simp <;> with_reducible rfl))
        case h5a37_ => exact fun _ _ _ h => h
        try simp only [Act.put, List.setIfInBounds_toArray, List.set_cons_zero, List.set_cons_succ]
        refine wpAnyH_take (i := 16) (oi := ?ooa38_) (v := ?vva38_) ?hia38_ (by kernel_rfl) ?h3a38_ ?h4a38_ ?h5a38_ ?h6a38_ (by assumption) ?h8a38_
        case hia38_ => (simp only [List.getElem?_toArray, List.getElem?_cons_succ, List.getElem?_cons_zero]; rfl)
        case h3a38_ => kernel_rfl
        case h4a38_ => kernel_rfl
        case h6a38_ => (refine Or.inl ⟨by rfl, ?_⟩; intro w hSw; (try dsimp only at hSw); (go_simp <;> with_reducible rfl))
        case h5a38_ => exact fun _ _ _ h => h
        try simp only [Act.put, List.setIfInBounds_toArray, List.set_cons_zero, List.set_cons_succ]
        refine wpAnyH_take (i := 17) (oi := ?ooa39_) (v := ?vva39_) ?hia39_ (by kernel_rfl) ?h3a39_ ?h4a39_ ?h5a39_ ?h6a39_ (by assumption) ?h8a39_
        case hia39_ => (simp only [List.getElem?_toArray, List.getElem?_cons_succ, List.getElem?_cons_zero]; rfl)
        case h3a39_ => kernel_rfl
        case h4a39_ => kernel_rfl
        case h6a39_ => (refine Or.inl ⟨by rfl, ?_⟩; intro w hSw; (try dsimp only at hSw); (go_simp <;> with_reducible rfl))
        case h5a39_ => exact fun _ _ _ h => h
        try simp only [Act.put, List.setIfInBounds_toArray, List.set_cons_zero, List.set_cons_succ]
        refine wpAnyH_take (i := 18) (oi := ?ooa40_) (v := ?vva40_) ?hia40_ (by kernel_rfl) ?h3a40_ ?h4a40_ ?h5a40_ ?h6a40_ (by assumption) ?h8a40_
        case hia40_ => (simp only [List.getElem?_toArray, List.getElem?_cons_succ, List.getElem?_cons_zero]; rfl)
        case h3a40_ => kernel_rfl
        case h4a40_ => kernel_rfl
        case h6a40_ => (refine Or.inl ⟨by rfl, ?_⟩; intro w hSw; (try dsimp only at hSw); (go_simp <;> with_reducible rfl))
        case h5a40_ => exact fun _ _ _ h => h
        try simp only [Act.put, List.setIfInBounds_toArray, List.set_cons_zero, List.set_cons_succ]
        refine wpAnyH_take (i := 19) (oi := ?ooa41_) (v := ?vva41_) ?hia41_ (by kernel_rfl) ?h3a41_ ?h4a41_ ?h5a41_ ?h6a41_ (by assumption) ?h8a41_
        case hia41_ => (simp only [List.getElem?_toArray, List.getElem?_cons_succ, List.getElem?_cons_zero]; rfl)
        case h3a41_ => kernel_rfl
        case h4a41_ => kernel_rfl
        case h6a41_ => (refine Or.inl ⟨by rfl, ?_⟩; intro w hSw; (try dsimp only at hSw); (go_simp <;> with_reducible rfl))
        case h5a41_ => exact fun _ _ _ h => h
        try simp only [Act.put, List.setIfInBounds_toArray, List.set_cons_zero, List.set_cons_succ]
        refine wpAnyH_take (i := 20) (oi := ?ooa42_) (v := ?vva42_) ?hia42_ (by kernel_rfl) ?h3a42_ ?h4a42_ ?h5a42_ ?h6a42_ (by assumption) ?h8a42_
        case hia42_ => (simp only [List.getElem?_toArray, List.getElem?_cons_succ, List.getElem?_cons_zero]; rfl)
        case h3a42_ => kernel_rfl
        case h4a42_ => kernel_rfl
        case h6a42_ => (refine Or.inl ⟨by rfl, ?_⟩; intro w hSw; (try dsimp only at hSw); (go_simp <;> with_reducible rfl))
        case h5a42_ => exact fun _ _ _ h => h
        try simp only [Act.put, List.setIfInBounds_toArray, List.set_cons_zero, List.set_cons_succ]
        refine wpAnyH_ready (rs := [3]) (by kernel_rfl) (by simp) (AllReadyH.cons (o := ?ooa43_q0) ?hia43_q0 (fun K hK => ?hka43_q0) AllReadyH.nil)
        case hia43_q0 => (simp only [List.getElem?_toArray, List.getElem?_cons_succ, List.getElem?_cons_zero]; rfl)
        case hka43_q0 =>
          (rw [if_pos (by rfl)]; go_simp; refine (hXM.out _ hHeld.2).mono ?_; rintro e q3 ⟨vM, rfl, OM, hb⟩; obtain ⟨bM, cM, rfl, _⟩ := OM.ints; obtain ⟨gM, rfl, _⟩ := OM.form_ (by omega); have kp := OM.cell (j := k) hm1; rw [HMO2.out] at kp; clear OM; go_wp2_with fail; refine hK.out _ _ (HMK24.out _ (bel_tr hHeld.2 hb)) (fun hHeld => ?_); clear hK K)
          try simp only [Act.put, List.setIfInBounds_toArray, List.set_cons_zero, List.set_cons_succ]
          refine wpAnyH_take (i := 5) (oi := ?ooa44_) (v := ?vva44_) ?hia44_ (by kernel_rfl) ?h3a44_ ?h4a44_ ?h5a44_ ?h6a44_ (by assumption) ?h8a44_
          case hia44_ => (simp only [List.getElem?_toArray, List.getElem?_cons_succ, List.getElem?_cons_zero]; rfl)
          case h3a44_ => kernel_rfl
          case h4a44_ => kernel_rfl
          case h6a44_ => (refine Or.inl ⟨by rfl, ?_⟩; intro w hSw; (try dsimp only at hSw); (go_simp <;> with_reducible rfl))
          case h5a44_ => exact fun _ _ _ h => h
          try simp only [Act.put, List.setIfInBounds_toArray, List.set_cons_zero, List.set_cons_succ]
          refine wpAnyH_ready (rs := [6]) (by kernel_rfl) (by simp) (AllReadyH.cons (o := ?ooa45_q0) ?hia45_q0 (fun K hK => ?hka45_q0) AllReadyH.nil)
          case hia45_q0 => (simp only [List.getElem?_toArray, List.getElem?_cons_succ, List.getElem?_cons_zero]; rfl)
          case hka45_q0 =>
            (rw [if_pos (by rfl)]; go_simp; refine hK.out _ _ (hHeld) (fun hHeld => ?_); clear hK K)
            try simp only [Act.put, List.setIfInBounds_toArray, List.set_cons_zero, List.set_cons_succ]
            refine wpAnyH_take (i := 21) (oi := ?ooa46_) (v := ?vva46_) ?hia46_ (by kernel_rfl) ?h3a46_ ?h4a46_ ?h5a46_ ?h6a46_ (by assumption) ?h8a46_
            case hia46_ => (simp only [List.getElem?_toArray, List.getElem?_cons_succ, List.getElem?_cons_zero]; rfl)
            case h3a46_ => kernel_rfl
            case h4a46_ => kernel_rfl
            case h6a46_ => (refine Or.inl ⟨by rfl, ?_⟩; intro w hSw; (try dsimp only at hSw); (go_simp <;> with_reducible rfl))
            case h5a46_ => exact fun _ _ _ h => h
            try simp only [Act.put, List.setIfInBounds_toArray, List.set_cons_zero, List.set_cons_succ]
            refine wpAnyH_done (by kernel_rfl) ?_ _
            clear HMK24
            have HBX := Lib.hid (bel_tr HB2.out hHeld.2)
            clear hHeld
            go_wp2_with fail
            go_roundw
            case rel => exact ⟨k + 1, by omega, by omega, by go_num, HBX.out⟩
            case measure => simp [intOf]; omega
    · obtain rfl : k = xs.length := by omega
      have B := bel_tr HB0.out hB
      have IN := nd_below HIN2.out hB
      have I7 := ints_below HI7.out hB
      have hmk := HMK.out
      have hM := OwnI.made (Below.refl wr.heap.size wr) xs.length n1
      have hB0 := (Below.refl wr.heap.size wr).alloc (Nat.le_refl _) (.cells (madeCells #[.int .i64 0] xs.length) 3)
      have B := bel_tr B hB0
      have IN := nd_below IN hB0
      have I7 := ints_below I7 hB0
      have I9 := hM.at_
      clear hB hM hB0
      go_wp2_with fail
      clear hmk
      refine (HZ.out _ _ _ IN I9).mono ?_
      rintro e u6_ ⟨v8, rfl, O8, C_⟩
      obtain ⟨b8, c8, rfl, I8⟩ := O8.ints
      clear O8
      replace B := bel_tr B C_
      replace IN := nd_below IN C_
      replace I7 := ints_below I7 C_
      replace I9 := ints_below I9 C_
      clear C_
      go_wp2_with fail
      refine (HTQ.out _ _ _ _ _ I8 I7).mono ?_
      rintro e u7_ ⟨rfl, C_⟩
      replace B := bel_tr B C_
      replace IN := nd_below IN C_
      replace I7 := ints_below I7 C_
      replace I9 := ints_below I9 C_
      replace I8 := ints_below I8 C_
      clear C_
      go_wp2_with fail
      go_ret
      exact ⟨rfl, B⟩

set_option maxRecDepth 100000 in
theorem lifted (os : Os) (started : os.Started) (H : Type) (enc : TypeId × Value → H) :
    ReturnsInHanded {} Try.checked os 12 .any (Rows.fnMeasuredWithSpec.pre6 enc Try.prog Try.f12 Rows.fnMeasuredWithRow.domain false) (Rows.fnMeasuredWithSpec.post enc Try.prog Try.f12 false true false false) := by
  refine returnsInHanded_of_change (C := Try.checked) own started (by kernel_rfl) Try.func12
    (ChangeSpec.witness6 (enc := enc) (C := Try.checked) false ⟨#[], #[.slice none 0 0], []⟩ 8 (by kernel_rfl) (by kernel_rfl) (by kernel_rfl) (by kernel_rfl)) ?_
  intro W base args ds gs before hval0 hW hcnd _
  have hval : ∀ (j : Nat) t v, Try.f12.params[j]? = some t → args[j]? = some v → Value.okWide Try.prog W .any base t v := hval0
  have hW' := hW
  obtain ⟨p, q, hA0, hV, rfl, hfz, hnd⟩ := hW
  have hA : DataW.TrodAll enc Try.prog W 0 (fun _ => true) true Try.f12.params.toList args.toList ds p := hA0
  rw [Try.params12] at hA hval
  obtain ⟨v0, vs0, e0, es0, p0, q0, hargs, rfl, rfl, h0, r0⟩ := trodAll_cons hA
  obtain ⟨rfl, rfl, rfl⟩ := trodAll_nil r0
  obtain rfl : args = #[v0] := by cases args; simp_all
  obtain ⟨rfl, rfl⟩ := trodVars_none hV
  have k0 := h0
  have lt0 : ∀ x ∈ p0, x.block < W.heap.size := by obtain ⟨m, hm⟩ := k0; exact DataW.trod_lt m _ _ _ hm
  obtain ⟨a0, len0, cap0, rfl⟩ := okWide_slice Try.underlying38 (hval 0 38 v0 rfl rfl)
  obtain ⟨z0, w0⟩ : ∃ zs, IsRow .u8 W a0 len0 cap0 zs := by
    obtain ⟨fuel, hf⟩ := h0
    rcases open_ints Try.underlying38 Try.underlying5 (by kernel_rfl) hf with ⟨hcs, _⟩ | ⟨x, l, c, zs, hcs, _, hl, hm, hz, _, hcell, hwz⟩
    · simp [Value.cells] at hcs
      obtain ⟨rfl, rfl, rfl⟩ := hcs
      exact ⟨[], .inl ⟨rfl, rfl, rfl, rfl⟩⟩
    · simp [Value.cells] at hcs
      obtain ⟨rfl, rfl, rfl⟩ := hcs
      exact ⟨zs, .inr ⟨_, rfl, hl, hm, by simpa using hz, hcell, hwz⟩⟩
  clear hA0 hval0
  refine (walk a0 len0 cap0 z0 W w0).mono fun e W' ⟨he, bel⟩ => ?_
  subst he
  exact ⟨_, rfl, _, _, _, [], _, [], hW', trodAll_mk1 (shut_bool Try.underlying4 _), (trodAll_cons_mk (Below.trod laidOut (by kernel_rfl) (of_decide_eq_true (by kernel_rfl)) k0 bel lt0) trodAll_mk0), rfl, bel.frame _, fun h => by cases h⟩

theorem over : Rows.fnMeasuredWithRow.holds Try.pinned (OpenSpec.ofChange Rows.fnMeasuredWithSpec) :=
  OpenClaim.holds_of_wide 12 Try.f12 rfl rfl rfl rfl rfl rfl rfl ⟨rfl, rfl, rfl, rfl, rfl⟩ rfl rfl rfl rfl rfl (by kernel_rfl) Try.func12 (by kernel_rfl)
    (of_decide_eq_true (by kernel_rfl)) (by unfold Func.isWrapper; first | (rw [if_pos (by decide +kernel)]; kernel_rfl) | (rw [if_neg (by decide +kernel)]; exact ⟨rfl, rfl⟩))
    (fun os started H enc _ => lifted os started H enc)

end Go.Proofs.Ytigapnbpgbfbhaa.fnMeasuredWith
namespace Go.Proofs.Ytigapnbpgbfbhaa
/-- the statement -/
theorem fnMeasuredWith_holds : Rows.FnMeasuredWithSaid := fnMeasuredWith.over
end Go.Proofs.Ytigapnbpgbfbhaa
