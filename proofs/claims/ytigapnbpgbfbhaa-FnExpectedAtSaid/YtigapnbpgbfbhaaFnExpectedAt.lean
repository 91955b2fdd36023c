/- For every input the law answers true, and its argument reads afterwards as before: honest water comes as expected. No condition. -/
import Derived.Test.YtigapnbpgbfbhaaRows
import Derived.Test.YtigapnbpgbfbhaaDrawTk
import Derived.Test.YtigapnbpgbfbhaaMeaJ
import Derived.Test.YtigapnbpgbfbhaaMeaQ
import Derived.Test.YtigapnbpgbfbhaaEqI
import Derived.Test.YtigapnbpgbfbhaaLawIn
import Derived.WalkKit
import Derived.Deep.RegionHeld3
import Derived.Deep.RegionWith
import Derived.Deep.QuietTactic
import Derived.BigQuiet
import Derived.RegionTactic
import Derived.ChangeAlike
import Derived.BigRegion
import Derived.ProofKit
import Derived.OpenShut
import Derived.ShutString
import Derived.ChangeOld
import Derived.Below
import Derived.Lib.SmallJoins
namespace Go.Proofs.Ytigapnbpgbfbhaa.fnExpectedAt
open Go.ChangeShapes Go.WideShapes Go.ChangeAt Go.RowKit Go.Joins
open Go.ChangeMaps (open_string shut_string)
set_option linter.unusedVariables false
set_option linter.unusedSimpArgs false

theorem own : ownKnob Try.prog.godebug = none := by kernel_rfl
theorem laidOut : laidOutB Try.prog = true := by kernel_rfl

set_option maxRecDepth 100000 in
set_option maxHeartbeats 8000000 in
theorem walk (a0 : Option Addr) (len0 cap0 : Nat) (z0 : List Int) (w : World) (w0 : IsRow .u8 w a0 len0 cap0 z0) :
    Calls Try.prog 7 #[.slice a0 len0 cap0] w fun e w' => e = .returned (.bool true) ∧ Below w.heap.size w w' := by
  by_cases big : (1048576 : Int) < (len0 : Int)
  · go_enter Try.func7, Try.ntmps7
    go_wp2
    go_ret
    exact ⟨rfl, Below.refl _ _⟩
  go_enter Try.func7, Try.ntmps7
  go_wp2_with fail
  refine (drawExp a0 len0 cap0 z0 _ w0).mono ?_
  rintro e u1 ⟨b1, c1, xs, b2, c2, ms, rfl, l1, l10, hlc, IN, ml, IM, B⟩
  clear w0 big
  have n1 : xs.length ≤ 1048576 := by omega
  have m1 : ms.length ≤ 1048576 := by omega
  obtain ⟨V, hV⟩ : ∃ V, expV xs ms = V := ⟨_, rfl⟩
  have HI : Hid (∀  (W : World), (h1 : IsNd W b1 xs) → (h2 : IsInts W b2 ms) → Calls Try.prog 18 #[.slice b1 xs.length c1, .slice b2 ms.length c2] W (OutI W V)) := fun  W h1 h2 => by rw [← hV]; exact iExp b1 b2 c1 c2 xs ms W h1 h2 n1 m1 hlc
  have HS : Hid (∀  (W : World), (h1 : IsNd W b1 xs) → (h2 : IsInts W b2 ms) → Calls Try.prog 15 #[.slice b1 xs.length c1, .slice b2 ms.length c2] W (OutI W V)) := fun  W h1 h2 => by rw [← hV]; exact sExp b1 b2 c1 c2 xs ms W h1 h2 n1 m1
  cases hvm : vmB xs ms with
  | false =>
    have e0 : ((V.length : Int) == 0) = true := by rw [← hV, expV_no hvm]; rfl
    have e1 : (V.length == 0) = true := by rw [← hV, expV_no hvm]; rfl
    have hVl : V.length ≤ 1048576 := by rw [← hV, expV_no hvm]; simp
    have HQ : Hid (∀ (b : Option Addr) (b' : Option Addr) (c : Nat) (c' : Nat) (W : World), (h1 : IsInts W b V) → (h2 : IsInts W b' V) → Calls Try.prog 31 #[.slice b V.length c, .slice b' V.length c'] W (fun e w' => e = .returned (.bool true) ∧ Below W.heap.size W w')) := fun b b' c c' W h1 h2 => eqInts b b' c c' V W h1 h2 hVl
    clear hV hvm hVl
    go_wp2_with fail
    refine (HI.out _ IN IM).mono ?_
    rintro e u2_ ⟨vo, rfl, Oo, C_⟩
    obtain ⟨bo, co, rfl, Io⟩ := Oo.ints
    clear Oo
    replace B := bel_tr B C_
    replace IN := nd_below IN C_
    replace IM := ints_below IM C_
    clear C_
    go_wp2_with fail
    refine (HS.out _ IN IM).mono ?_
    rintro e u3_ ⟨vp, rfl, Op, C_⟩
    obtain ⟨bp, cp, rfl, Ip⟩ := Op.ints
    clear Op
    replace B := bel_tr B C_
    replace IN := nd_below IN C_
    replace IM := ints_below IM C_
    replace Io := ints_below Io C_
    clear C_
    go_wp2_with fail
    refine (HQ.out _ _ _ _ _ Io Ip).mono ?_
    rintro e u4_ ⟨rfl, C_⟩
    replace B := bel_tr B C_
    replace IN := nd_below IN C_
    replace IM := ints_below IM C_
    replace Io := ints_below Io C_
    replace Ip := ints_below Ip C_
    clear C_
    go_wp2_with fail
    clear Ip
    refine (HS.out _ IN IM).mono ?_
    rintro e u5_ ⟨vq, rfl, Oq, C_⟩
    obtain ⟨bq, cq, rfl, Iq⟩ := Oq.ints
    clear Oq
    replace B := bel_tr B C_
    replace IN := nd_below IN C_
    replace IM := ints_below IM C_
    replace Io := ints_below Io C_
    clear C_
    go_wp2_with fail
    refine (HQ.out _ _ _ _ _ Io Iq).mono ?_
    rintro e u6_ ⟨rfl, C_⟩
    replace B := bel_tr B C_
    replace IN := nd_below IN C_
    replace IM := ints_below IM C_
    replace Io := ints_below Io C_
    replace Iq := ints_below Iq C_
    clear C_
    go_wp2_with fail
    go_ret
    exact ⟨rfl, B⟩
  | true =>
  rw [expV_yes hvm] at hV
  have hVl : V.length = xs.length := by rw [← hV, expF_len]
  have e0 : ((V.length : Int) == 0) = false := beq_eq_false_iff_ne.2 (by omega)
  have e1 : (V.length == 0) = false := beq_eq_false_iff_ne.2 (by omega)
  have HQ : Hid (∀ (b : Option Addr) (b' : Option Addr) (c : Nat) (c' : Nat) (W : World), (h1 : IsInts W b V) → (h2 : IsInts W b' V) → Calls Try.prog 31 #[.slice b V.length c, .slice b' V.length c'] W (fun e w' => e = .returned (.bool true) ∧ Below W.heap.size W w')) := fun b b' c c' W h1 h2 => eqInts b b' c c' V W h1 h2 (by omega)
  obtain ⟨hv, hml, hma⟩ := vm_is hvm
  have hfl := allM_get hma 0
  have hroot : V.getD 0 0 = ms.getD 0 0 := by rw [← hV]; exact exp_root hv ms
  obtain ⟨fl, hf⟩ : ∃ z, ms.getD 0 0 = z := ⟨_, rfl⟩
  rw [hf] at hfl hroot
  obtain ⟨T, hT⟩ : ∃ T, comeF xs fl = T := ⟨_, rfl⟩
  have hTl : T.length ≤ 1048576 := by rw [← hT, comeF_len]; exact n1
  have m0 : (0 : Int) < (ms.length : Int) := by omega
  have m0' : 0 < ms.length := by omega
  have v0 : (0 : Int) < (V.length : Int) := by omega
  have v0' : 0 < V.length := by omega
  have HF : Hid (∀  (W : World), (h1 : IsNd W b1 xs) → Calls Try.prog 32 #[.slice b1 xs.length c1, .int .i64 fl] W (OutI W T)) := fun  W h1 => by have h := iFlows b1 c1 xs fl W h1 n1 hlc; rw [flow_yes (show flB xs fl = true from by unfold flB; rw [hv, decide_eq_true hfl.1, decide_eq_true hfl.2]; rfl), hT] at h; exact h
  have HE : Hid (∀ (b : Option Addr) (c : Nat) (W : World), (h1 : IsNd W b1 xs) → (h2 : IsInts W b T) → Calls Try.prog 18 #[.slice b1 xs.length c1, .slice b T.length c] W (OutI W T)) := fun b c W h1 h2 => by have h := iExp b1 b c1 c xs T W h1 h2 n1 hTl hlc; rw [expV_yes (show vmB xs T = true from by rw [← hT]; exact come_all hv hfl), show expF xs T = T from by rw [← hT]; exact exp_honest hv fl] at h; exact h
  have HT : Hid (∀ (b : Option Addr) (b' : Option Addr) (c : Nat) (c' : Nat) (W : World), (h1 : IsInts W b T) → (h2 : IsInts W b' T) → Calls Try.prog 31 #[.slice b T.length c, .slice b' T.length c'] W (fun e w' => e = .returned (.bool true) ∧ Below W.heap.size W w')) := fun b b' c c' W h1 h2 => eqInts b b' c c' T W h1 h2 hTl
  have HRT := Lib.hid hroot
  have HMF := Lib.hid hf
  clear hV hvm hv hml hma hT hVl hroot hf
  go_wp2_with fail
  refine (HI.out _ IN IM).mono ?_
  rintro e u2_ ⟨vo, rfl, Oo, C_⟩
  obtain ⟨bo, co, rfl, Io⟩ := Oo.ints
  clear Oo
  replace B := bel_tr B C_
  replace IN := nd_below IN C_
  replace IM := ints_below IM C_
  clear C_
  go_wp2_with fail
  refine (HS.out _ IN IM).mono ?_
  rintro e u3_ ⟨vp, rfl, Op, C_⟩
  obtain ⟨bp, cp, rfl, Ip⟩ := Op.ints
  clear Op
  replace B := bel_tr B C_
  replace IN := nd_below IN C_
  replace IM := ints_below IM C_
  replace Io := ints_below Io C_
  clear C_
  go_wp2_with fail
  refine (HQ.out _ _ _ _ _ Io Ip).mono ?_
  rintro e u4_ ⟨rfl, C_⟩
  replace B := bel_tr B C_
  replace IN := nd_below IN C_
  replace IM := ints_below IM C_
  replace Io := ints_below Io C_
  replace Ip := ints_below Ip C_
  clear C_
  clear Ip
  clear HI HS
  rcases IM with hnil | ⟨gm, ogm, rfl, hgm⟩
  · rw [hnil] at m0'; exact absurd m0' (Nat.not_lt_zero _)
  have x0 := hgm 0 m0'
  rw [HMF.out, show ogm + 0 = ogm from rfl] at x0
  have HIM := Lib.hid (show IsInts u4_ (some ⟨gm, ogm, none⟩) ms from .inr ⟨gm, ogm, rfl, hgm⟩)
  clear hgm
  go_wp2_with fail
  clear x0
  have IM := HIM.out
  clear HIM
  refine (HF.out _ IN).mono ?_
  rintro e u5_ ⟨v7, rfl, O7, C_⟩
  obtain ⟨b7, c7, rfl, I7⟩ := O7.ints
  clear O7
  replace B := bel_tr B C_
  replace IN := nd_below IN C_
  replace Io := ints_below Io C_
  replace IM := ints_below IM C_
  clear C_
  go_wp2_with fail
  rcases Io with hnil | ⟨gv, ogv, rfl, hgv⟩
  · rw [hnil] at v0'; exact absurd v0' (Nat.not_lt_zero _)
  rcases IM with hnil | ⟨gm2, ogm2, hgeq, hgm2⟩
  · rw [hnil] at m0'; exact absurd m0' (Nat.not_lt_zero _)
  injection hgeq with hgeq; injection hgeq with hg1 hg2; subst hg1 hg2
  have x2 := hgv 0 v0'
  have x3 := hgm2 0 m0'
  rw [HRT.out, show ogv + 0 = ogv from rfl] at x2
  rw [HMF.out, show ogm + 0 = ogm from rfl] at x3
  clear hgv hgm2 HF HQ
  have HE2 : Hid (∀ (b : Option Addr) (c : Nat) (W : World), (hb : Below u5_.heap.size u5_ W) → (h2 : IsInts W b T) → Calls Try.prog 18 #[.slice b1 xs.length c1, .slice b T.length c] W (OutI W T)) := fun b c W hb h2 => HE.out b c W (nd_below IN hb) h2
  clear HE IN
  replace I7 : IsInts u5_.drew b7 T := I7
  have HMK1 := Lib.hid (fun (W : World) (hW : Below u5_.heap.size u5_ W) => (⟨⟨(hW.cell (p := ⟨gv, ogv, none⟩) (World.block_lt_of_cell? _ _ x2)).trans x2, (hW.cell (p := ⟨gm, ogm, none⟩) (World.block_lt_of_cell? _ _ x3)).trans x3⟩, hW⟩ : (W.cell? ⟨gv, ogv, none⟩ = some (.int .i64 fl) ∧ W.cell? ⟨gm, ogm, none⟩ = some (.int .i64 fl)) ∧ Below u5_.heap.size u5_ W))
  refine wp_region_held_drew (S := (fun w' => (w'.cell? ⟨gv, ogv, none⟩ = some (.int .i64 fl) ∧ w'.cell? ⟨gm, ogm, none⟩ = some (.int .i64 fl)) ∧ Below u5_.heap.size u5_ w')) (by kernel_rfl) ?_ (fun hHeld => ?_)
  · exact ⟨⟨x2, x3⟩, (Below.refl _ _).drew⟩
  refine wpAnyH_take (i := 0) (oi := ?ooa2_) (v := ?vva2_) ?hia2_ (by kernel_rfl) ?h3a2_ ?h4a2_ ?h5a2_ ?h6a2_ (by assumption) ?h8a2_
  case hia2_ => (simp only [List.getElem?_toArray, List.getElem?_cons_succ, List.getElem?_cons_zero]; rfl)
  case h3a2_ => kernel_rfl
  case h4a2_ => kernel_rfl
  case h6a2_ => (refine Or.inl ⟨by rfl, ?_⟩; intro w hSw; (try dsimp only at hSw); (go_simp <;> with_reducible rfl))
  case h5a2_ => exact fun _ _ _ h => h
  try simp only [Act.put, List.setIfInBounds_toArray, List.set_cons_zero, List.set_cons_succ]
  refine wpAnyH_take (i := 1) (oi := ?ooa3_) (v := ?vva3_) ?hia3_ (by kernel_rfl) ?h3a3_ ?h4a3_ ?h5a3_ ?h6a3_ (by assumption) ?h8a3_
  case hia3_ => (simp only [List.getElem?_toArray, List.getElem?_cons_succ, List.getElem?_cons_zero]; rfl)
  case h3a3_ => kernel_rfl
  case h4a3_ => kernel_rfl
  case h6a3_ => (refine Or.inl ⟨by rfl, ?_⟩; intro w hSw; (try dsimp only at hSw); (go_simp <;> with_reducible rfl))
  case h5a3_ => exact fun _ _ _ h => h
  try simp only [Act.put, List.setIfInBounds_toArray, List.set_cons_zero, List.set_cons_succ]
  refine wpAnyH_take (i := 2) (oi := ?ooa4_) (v := ?vva4_) ?hia4_ (by kernel_rfl) ?h3a4_ ?h4a4_ ?h5a4_ ?h6a4_ (by assumption) ?h8a4_
  case hia4_ => (simp only [List.getElem?_toArray, List.getElem?_cons_succ, List.getElem?_cons_zero]; rfl)
  case h3a4_ => kernel_rfl
  case h4a4_ => kernel_rfl
  case h6a4_ => (refine Or.inl ⟨by rfl, ?_⟩; intro w hSw; (try dsimp only at hSw); (go_simp <;> with_reducible rfl))
  case h5a4_ => exact fun _ _ _ h => h
  try simp only [Act.put, List.setIfInBounds_toArray, List.set_cons_zero, List.set_cons_succ]
  refine wpAnyH_take (i := 3) (oi := ?ooa5_) (v := ?vva5_) ?hia5_ (by kernel_rfl) ?h3a5_ ?h4a5_ ?h5a5_ ?h6a5_ (by assumption) ?h8a5_
  case hia5_ => (simp only [List.getElem?_toArray, List.getElem?_cons_succ, List.getElem?_cons_zero]; rfl)
  case h3a5_ => kernel_rfl
  case h4a5_ => kernel_rfl
  case h6a5_ => (refine Or.inl ⟨by rfl, ?_⟩; intro w hSw; (try dsimp only at hSw); (go_simp <;> with_reducible rfl))
  case h5a5_ => exact fun _ _ _ h => h
  try simp only [Act.put, List.setIfInBounds_toArray, List.set_cons_zero, List.set_cons_succ]
  refine wpAnyH_take (i := 4) (oi := ?ooa6_) (v := ?vva6_) ?hia6_ (by kernel_rfl) ?h3a6_ ?h4a6_ ?h5a6_ ?h6a6_ (by assumption) ?h8a6_
  case hia6_ => (simp only [List.getElem?_toArray, List.getElem?_cons_succ, List.getElem?_cons_zero]; rfl)
  case h3a6_ => kernel_rfl
  case h4a6_ => kernel_rfl
  case h6a6_ => (refine Or.inl ⟨by rfl, ?_⟩; intro w hSw; (try dsimp only at hSw); (go_simp <;> with_reducible rfl))
  case h5a6_ => exact fun _ _ _ h => h
  try simp only [Act.put, List.setIfInBounds_toArray, List.set_cons_zero, List.set_cons_succ]
  refine wpAnyH_take (i := 5) (oi := ?ooa7_) (v := ?vva7_) ?hia7_ (by kernel_rfl) ?h3a7_ ?h4a7_ ?h5a7_ ?h6a7_ (by assumption) ?h8a7_
  case hia7_ => (simp only [List.getElem?_toArray, List.getElem?_cons_succ, List.getElem?_cons_zero]; rfl)
  case h3a7_ => kernel_rfl
  case h4a7_ => kernel_rfl
  case h6a7_ => (refine Or.inl ⟨by rfl, ?_⟩; intro w hSw; (try dsimp only at hSw); (go_simp <;> with_reducible rfl))
  case h5a7_ => exact fun _ _ _ h => h
  try simp only [Act.put, List.setIfInBounds_toArray, List.set_cons_zero, List.set_cons_succ]
  refine wpAnyH_take (i := 6) (oi := ?ooa8_) (v := ?vva8_) ?hia8_ (by kernel_rfl) ?h3a8_ ?h4a8_ ?h5a8_ ?h6a8_ (by assumption) ?h8a8_
  case hia8_ => (simp only [List.getElem?_toArray, List.getElem?_cons_succ, List.getElem?_cons_zero]; rfl)
  case h3a8_ => kernel_rfl
  case h4a8_ => kernel_rfl
  case h6a8_ => (refine Or.inl ⟨by rfl, ?_⟩; intro w hSw; (try dsimp only at hSw); (go_simp <;> with_reducible rfl))
  case h5a8_ => exact fun _ _ _ h => h
  try simp only [Act.put, List.setIfInBounds_toArray, List.set_cons_zero, List.set_cons_succ]
  refine wpAnyH_take (i := 7) (oi := ?ooa9_) (v := ?vva9_) ?hia9_ (by kernel_rfl) ?h3a9_ ?h4a9_ ?h5a9_ ?h6a9_ (by assumption) ?h8a9_
  case hia9_ => (simp only [List.getElem?_toArray, List.getElem?_cons_succ, List.getElem?_cons_zero]; rfl)
  case h3a9_ => kernel_rfl
  case h4a9_ => kernel_rfl
  case h6a9_ => (refine Or.inl ⟨by rfl, ?_⟩; intro w hSw; (try dsimp only at hSw); (go_simp <;> with_reducible rfl))
  case h5a9_ => exact fun _ _ _ h => h
  try simp only [Act.put, List.setIfInBounds_toArray, List.set_cons_zero, List.set_cons_succ]
  refine wpAnyH_take (i := 8) (oi := ?ooa10_) (v := ?vva10_) ?hia10_ (by kernel_rfl) ?h3a10_ ?h4a10_ ?h5a10_ ?h6a10_ (by assumption) ?h8a10_
  case hia10_ => (simp only [List.getElem?_toArray, List.getElem?_cons_succ, List.getElem?_cons_zero]; rfl)
  case h3a10_ => kernel_rfl
  case h4a10_ => kernel_rfl
  case h6a10_ => (refine Or.inl ⟨by rfl, ?_⟩; intro w hSw; (try dsimp only at hSw); (go_simp <;> with_reducible rfl))
  case h5a10_ => exact fun _ _ _ h => h
  try simp only [Act.put, List.setIfInBounds_toArray, List.set_cons_zero, List.set_cons_succ]
  refine wpAnyH_take (i := 9) (oi := ?ooa11_) (v := ?vva11_) ?hia11_ (by kernel_rfl) ?h3a11_ ?h4a11_ ?h5a11_ ?h6a11_ (by assumption) ?h8a11_
  case hia11_ => (simp only [List.getElem?_toArray, List.getElem?_cons_succ, List.getElem?_cons_zero]; rfl)
  case h3a11_ => kernel_rfl
  case h4a11_ => kernel_rfl
  case h6a11_ => (refine Or.inl ⟨by rfl, ?_⟩; intro w hSw; (try dsimp only at hSw); (go_simp <;> with_reducible rfl))
  case h5a11_ => exact fun _ _ _ h => h
  try simp only [Act.put, List.setIfInBounds_toArray, List.set_cons_zero, List.set_cons_succ]
  refine wpAnyH_take (i := 11) (oi := ?ooa12_) (v := ?vva12_) ?hia12_ (by kernel_rfl) ?h3a12_ ?h4a12_ ?h5a12_ ?h6a12_ (by assumption) ?h8a12_
  case hia12_ => (simp only [List.getElem?_toArray, List.getElem?_cons_succ, List.getElem?_cons_zero]; rfl)
  case h3a12_ => kernel_rfl
  case h4a12_ => kernel_rfl
  case h6a12_ => (refine Or.inl ⟨by rfl, ?_⟩; intro w hSw; (try dsimp only at hSw); (go_simp <;> with_reducible rfl))
  case h5a12_ => exact fun _ _ _ h => h
  try simp only [Act.put, List.setIfInBounds_toArray, List.set_cons_zero, List.set_cons_succ]
  refine wpAnyH_ready (rs := [10]) (by kernel_rfl) (by simp) (AllReadyH.cons (o := ?ooa13_q0) ?hia13_q0 (fun K hK => ?hka13_q0) AllReadyH.nil)
  case hia13_q0 => (simp only [List.getElem?_toArray, List.getElem?_cons_succ, List.getElem?_cons_zero]; rfl)
  case hka13_q0 =>
    (rw [if_pos (by rfl)]; go_simp; refine (HE2.out _ _ _ hHeld.2 I7).mono ?_; rintro e q10 ⟨v9, rfl, O9, hb⟩; obtain ⟨b9, c9, rfl, I9⟩ := O9.ints; clear O9; replace I7 := ints_below I7 hb; go_wp2_with fail; refine hK.out _ _ (HMK1.out _ (bel_tr hHeld.2 hb)) (fun hHeld => ?_); clear hK K)
    try simp only [Act.put, List.setIfInBounds_toArray, List.set_cons_zero, List.set_cons_succ]
    refine wpAnyH_ready (rs := [12]) (by kernel_rfl) (by simp) (AllReadyH.cons (o := ?ooa14_q0) ?hia14_q0 (fun K hK => ?hka14_q0) AllReadyH.nil)
    case hia14_q0 => (simp only [List.getElem?_toArray, List.getElem?_cons_succ, List.getElem?_cons_zero]; rfl)
    case hka14_q0 =>
      (rw [if_pos (by rfl)]; go_simp; refine (HT.out _ _ _ _ _ I9 I7).mono ?_; rintro e q12 ⟨rfl, hb⟩; replace I7 := ints_below I7 hb; replace I9 := ints_below I9 hb; go_wp2_with fail; refine hK.out _ _ (HMK1.out _ (bel_tr hHeld.2 hb)) (fun hHeld => ?_); clear hK K)
      try simp only [Act.put, List.setIfInBounds_toArray, List.set_cons_zero, List.set_cons_succ]
      refine wpAnyH_take (i := 13) (oi := ?ooa15_) (v := ?vva15_) ?hia15_ (by kernel_rfl) ?h3a15_ ?h4a15_ ?h5a15_ ?h6a15_ (by assumption) ?h8a15_
      case hia15_ => (simp only [List.getElem?_toArray, List.getElem?_cons_succ, List.getElem?_cons_zero]; rfl)
      case h3a15_ => kernel_rfl
      case h4a15_ => kernel_rfl
      case h6a15_ => (refine Or.inl ⟨by rfl, ?_⟩; intro w hSw; (try dsimp only at hSw); (go_simp <;> with_reducible rfl))
      case h5a15_ => exact fun _ _ _ h => h
      try simp only [Act.put, List.setIfInBounds_toArray, List.set_cons_zero, List.set_cons_succ]
      refine wpAnyH_take (i := 14) (oi := ?ooa16_) (v := ?vva16_) ?hia16_ (by kernel_rfl) ?h3a16_ ?h4a16_ ?h5a16_ ?h6a16_ (by assumption) ?h8a16_
      case hia16_ => (simp only [List.getElem?_toArray, List.getElem?_cons_succ, List.getElem?_cons_zero]; rfl)
      case h3a16_ => kernel_rfl
      case h4a16_ => kernel_rfl
      case h6a16_ => (refine Or.inl ⟨by rfl, ?_⟩; intro w hSw; (try dsimp only at hSw); (go_simp <;> with_reducible rfl))
      case h5a16_ => exact fun _ _ _ h => h
      try simp only [Act.put, List.setIfInBounds_toArray, List.set_cons_zero, List.set_cons_succ]
      refine wpAnyH_done (by kernel_rfl) ?_ _
      clear HMK1
      have B2 := bel_tr B hHeld.2
      clear hHeld
      go_wp2_with fail
      go_ret
      exact ⟨rfl, B2⟩

set_option maxRecDepth 100000 in
theorem lifted (os : Os) (started : os.Started) (H : Type) (enc : TypeId × Value → H) :
    ReturnsInHanded {} Try.checked os 7 .any (Rows.fnExpectedAtSpec.pre6 enc Try.prog Try.f7 Rows.fnExpectedAtRow.domain false) (Rows.fnExpectedAtSpec.post enc Try.prog Try.f7 false true false false) := by
  refine returnsInHanded_of_change (C := Try.checked) own started (by kernel_rfl) Try.func7
    (ChangeSpec.witness6 (enc := enc) (C := Try.checked) false ⟨#[], #[.slice none 0 0], []⟩ 8 (by kernel_rfl) (by kernel_rfl) (by kernel_rfl) (by kernel_rfl)) ?_
  intro W base args ds gs before hval0 hW hcnd _
  have hval : ∀ (j : Nat) t v, Try.f7.params[j]? = some t → args[j]? = some v → Value.okWide Try.prog W .any base t v := hval0
  have hW' := hW
  obtain ⟨p, q, hA0, hV, rfl, hfz, hnd⟩ := hW
  have hA : DataW.TrodAll enc Try.prog W 0 (fun _ => true) true Try.f7.params.toList args.toList ds p := hA0
  rw [Try.params7] at hA hval
  obtain ⟨v0, vs0, e0, es0, p0, q0, hargs, rfl, rfl, h0, r0⟩ := trodAll_cons hA
  obtain ⟨rfl, rfl, rfl⟩ := trodAll_nil r0
  obtain rfl : args = #[v0] := by cases args; simp_all
  obtain ⟨rfl, rfl⟩ := trodVars_none hV
  have k0 := h0
  have lt0 : ∀ x ∈ p0, x.block < W.heap.size := by obtain ⟨m, hm⟩ := k0; exact DataW.trod_lt m _ _ _ hm
  obtain ⟨a0, len0, cap0, rfl⟩ := okWide_slice Try.underlying38 (hval 0 38 v0 rfl rfl)
  obtain ⟨z0, w0⟩ : ∃ zs, IsRow .u8 W a0 len0 cap0 zs := by
    obtain ⟨fuel, hf⟩ := h0
    rcases open_ints Try.underlying38 Try.underlying5 (by kernel_rfl) hf with ⟨hcs, _⟩ | ⟨x, l, c, zs, hcs, _, hl, hm, hz, _, hcell, hwz⟩
    · simp [Value.cells] at hcs
      obtain ⟨rfl, rfl, rfl⟩ := hcs
      exact ⟨[], .inl ⟨rfl, rfl, rfl, rfl⟩⟩
    · simp [Value.cells] at hcs
      obtain ⟨rfl, rfl, rfl⟩ := hcs
      exact ⟨zs, .inr ⟨_, rfl, hl, hm, by simpa using hz, hcell, hwz⟩⟩
  clear hA0 hval0
  refine (walk a0 len0 cap0 z0 W w0).mono fun e W' ⟨he, bel⟩ => ?_
  subst he
  exact ⟨_, rfl, _, _, _, [], _, [], hW', trodAll_mk1 (shut_bool Try.underlying4 _), (trodAll_cons_mk (Below.trod laidOut (by kernel_rfl) (of_decide_eq_true (by kernel_rfl)) k0 bel lt0) trodAll_mk0), rfl, bel.frame _, fun h => by cases h⟩

theorem over : Rows.fnExpectedAtRow.holds Try.pinned (OpenSpec.ofChange Rows.fnExpectedAtSpec) :=
  OpenClaim.holds_of_wide 7 Try.f7 rfl rfl rfl rfl rfl rfl rfl ⟨rfl, rfl, rfl, rfl, rfl⟩ rfl rfl rfl rfl rfl (by kernel_rfl) Try.func7 (by kernel_rfl)
    (of_decide_eq_true (by kernel_rfl)) (by unfold Func.isWrapper; first | (rw [if_pos (by decide +kernel)]; kernel_rfl) | (rw [if_neg (by decide +kernel)]; exact ⟨rfl, rfl⟩))
    (fun os started H enc _ => lifted os started H enc)

end Go.Proofs.Ytigapnbpgbfbhaa.fnExpectedAt
namespace Go.Proofs.Ytigapnbpgbfbhaa
/-- the statement -/
theorem fnExpectedAt_holds : Rows.FnExpectedAtSaid := fnExpectedAt.over
end Go.Proofs.Ytigapnbpgbfbhaa
