/- For every input the law answers true, and its argument reads afterwards as before: water comes later further down. No condition. -/
import Derived.Test.YtbmpcggdkeakeaaRows
import Derived.Test.YtbmpcggdkeakeaaDrawNb
import Derived.Test.YtbmpcggdkeakeaaNodQ
import Derived.Test.YtbmpcggdkeakeaaLawIn
import Derived.Test.YtbmpcggdkeakeaaEqI
import Derived.Test.YtbmpcggdkeakeaaOwnM
import Derived.Test.YtbmpcggdkeakeaaNodT
import Derived.Test.YtbmpcggdkeakeaaFlowI
import Derived.WalkKit
import Derived.Deep.RegionHeld3
import Derived.Deep.QuietTactic
import Derived.BigQuiet
import Derived.ProofKit
import Derived.OpenShut
import Derived.ShutString
import Derived.ChangeOld
import Derived.Below
import Derived.Lib.SmallJoins
namespace Go.Proofs.Ytbmpcggdkeakeaa.fnDelayTo
open Go.ChangeShapes Go.WideShapes Go.ChangeAt Go.RowKit Go.Joins
open Go.ChangeMaps (open_string shut_string)
set_option linter.unusedVariables false
set_option linter.unusedSimpArgs false

theorem own : ownKnob Try.prog.godebug = none := by kernel_rfl
theorem laidOut : laidOutB Try.prog = true := by kernel_rfl

set_option maxRecDepth 100000 in
set_option maxHeartbeats 8000000 in
theorem walk (a0 : Option Addr) (len0 cap0 : Nat) (z0 : List Int) (w : World) (w0 : IsRow .u8 w a0 len0 cap0 z0) :
    Calls Try.prog 6 #[.slice a0 len0 cap0] w fun e w' => e = .returned (.bool true) ∧ Below w.heap.size w w' := by
  by_cases big : (1048576 : Int) < (len0 : Int)
  · go_enter Try.func6, Try.ntmps6
    go_wp2
    go_ret
    exact ⟨rfl, Below.refl _ _⟩
  go_enter Try.func6, Try.ntmps6
  go_wp2_with fail
  refine (drawDelayTo a0 len0 cap0 z0 _ w0).mono ?_
  rintro e u1 ⟨b, cp, xs, at_, rfl, l1, l10, hlc, I, i0, i1, B⟩
  clear w0 big
  have n1 : xs.length ≤ 1048576 := by omega
  have DI := Lib.hid (fun (W : World) (h : IsNd W b xs) (i : Int) => iDelay b cp xs i W h n1 hlc)
  have DS := Lib.hid (fun (W : World) (h : IsNd W b xs) (i : Int) => sDelay b cp xs i W h n1)
  have OA := Lib.hid (fun W h => DI.out W h at_)
  have OB := Lib.hid (fun W h => DS.out W h at_)
  by_cases hv : (vnB xs && inN xs.length at_) = true
  rotate_left
  · have hv2 : delayV xs at_ = -1 := by unfold delayV; rw [if_neg hv]
    rw [hv2] at OA OB
    clear hv hv2 DI DS
    go_wp2_with fail
    refine (OA.out _ I).mono ?_
    rintro e u2 ⟨rfl, C⟩
    replace B := bel_tr B C
    replace I := nd_below I C
    clear C
    go_wp2_with fail
    refine (OB.out _ I).mono ?_
    rintro e u3 ⟨rfl, C⟩
    replace B := bel_tr B C
    replace I := nd_below I C
    clear C
    go_wp2_with fail
    refine (OB.out _ I).mono ?_
    rintro e u4 ⟨rfl, C⟩
    replace B := bel_tr B C
    replace I := nd_below I C
    clear C
    go_wp2_with fail
    go_ret
    exact ⟨rfl, B⟩
  rw [Bool.and_eq_true] at hv
  obtain ⟨k, rfl, hk⟩ := inN_yes hv.2
  rw [delay_yes hv.1 hv.2] at OA OB
  have hst := delay_step hv.1 hk
  have hdb := delay_bd hv.1 hk
  have hpp := vn_parI hv.1 hk
  have hdd := (vn_at hv.1 hk).2.2.2
  have h0p := vn_par0 hv.1
  have HN : Hid (delayF xs (-1) = 0) := by show delayF xs (-1) = 0; unfold delayF; rw [pathF_neg xs (by omega)]; rfl
  obtain ⟨D, hD⟩ : ∃ D, delayF xs (k : Int) = D := ⟨_, rfl⟩
  rw [hD] at OA OB hst hdb
  have e0 : decide (D < 0) = false := decide_eq_false (by omega)
  have k0 : (0 : Int) ≤ (k : Int) := by omega
  have k1 : (k : Int) < (xs.length : Int) := by omega
  rcases (show IsNd u1 b xs from I) with rfl | ⟨g, o, rfl, _⟩
  · simp at l1
  by_cases hz : k = 0
  · subst hz
    rw [h0p, HN.out] at hst
    have HST := Lib.hid hst
    clear hv hD hpp h0p DI DS hk hst hdb hdd
    go_wp2_with fail
    refine (OA.out _ I).mono ?_
    rintro e u2 ⟨rfl, C⟩
    replace B := bel_tr B C
    replace I := nd_below I C
    clear C
    go_wp2_with fail
    refine (OB.out _ I).mono ?_
    rintro e u3 ⟨rfl, C⟩
    replace B := bel_tr B C
    replace I := nd_below I C
    clear C
    have c4 : ∃ z, (xs.getD 0 nd0).2.2.2.2 = z ∧ u3.cell? ⟨g, o + 4, none⟩ = some (.int .i64 z) := (by
      rcases I with rfl | ⟨g', o', e, hc⟩
      · simp at l1
      · injection e with e; injection e with e1 e2 e3; subst e1 e2; have := (hc 0 (by omega)).2.2.2.2; rw [show o + 0 * 5 + 4 = o + 4 from by omega] at this; exact ⟨_, rfl, this⟩)
    obtain ⟨z, hz, c4⟩ := c4
    have hst := HST.out
    rw [hz] at hst
    obtain rfl : D = z := by omega
    have i00 : (0 : Int) < (xs.length : Int) := by omega
    clear hst hz I HN HST
    go_wp2_with fail
    go_ret
    exact ⟨rfl, B⟩
  have z1 : ((k : Int) == 0) = false := beq_eq_false_iff_ne.2 (by omega)
  have z2 : (k == 0) = false := beq_eq_false_iff_ne.2 hz
  obtain ⟨p0, p1⟩ := vn_par hv.1 hk (by omega)
  obtain ⟨m, hm⟩ : ∃ m : Nat, (xs.getD k nd0).1 = (m : Int) := ⟨(xs.getD k nd0).1.toNat, by omega⟩
  have hdm := delay_bd hv.1 (k := m) (by omega)
  have DM := Lib.hid (fun W h => DI.out W h (m : Int))
  rw [delay_yes hv.1 (inN_is (by omega : m < xs.length))] at DM
  rw [hm] at hst
  generalize delayF xs (m : Int) = E at *
  have HM := Lib.hid hm
  have HST := Lib.hid (And.intro hst (And.intro hdb (And.intro hdd hdm)))
  clear hv hD hpp h0p DI DS hm p0 p1 hst hdb hdd hdm
  go_wp2_with fail
  refine (OA.out _ I).mono ?_
  rintro e u2 ⟨rfl, C⟩
  replace B := bel_tr B C
  replace I := nd_below I C
  clear C
  go_wp2_with fail
  refine (OB.out _ I).mono ?_
  rintro e u3 ⟨rfl, C⟩
  replace B := bel_tr B C
  replace I := nd_below I C
  clear C
  have c04 : u3.cell? ⟨g, o + k * 5, none⟩ = some (.int .i64 (m : Int)) ∧ ∃ z, (xs.getD k nd0).2.2.2.2 = z ∧ u3.cell? ⟨g, o + k * 5 + 4, none⟩ = some (.int .i64 z) := (by
    rcases I with rfl | ⟨g', o', e, hc⟩
    · simp at l1
    · injection e with e; injection e with e1 e2 e3; subst e1 e2; have h := hc k hk; rw [HM.out] at h; exact ⟨h.1, _, rfl, h.2.2.2.2⟩)
  obtain ⟨c0, z, hz9, c4⟩ := c04
  obtain ⟨hst, hdb, hdd, hdm⟩ := HST.out
  rw [hz9] at hst hdd
  have we : IntKind.i64.wrap (E + z) = D := by rw [IntKind.wrap_i64]; omega
  have HI := Lib.hid I
  have HB := Lib.hid B
  clear hst hz9 hdd hdb I HN HM hdm B HST
  go_wp2_with fail
  refine wp_region_held_drew (S := (fun W' => (W'.cell? ⟨g, o + k * 5, none⟩ = some (.int .i64 (m : Int)) ∧ W'.cell? ⟨g, o + k * 5 + 4, none⟩ = some (.int .i64 z) ∧ W'.cell? ⟨g, o + k * 5 + 4, none⟩ = some (.int .i64 z) ∧ W'.cell? ⟨g, o + k * 5 + 4, none⟩ = some (.int .i64 z) ∧ W'.cell? ⟨g, o + k * 5 + 4, none⟩ = some (.int .i64 z) ∧ W'.cell? ⟨g, o + k * 5 + 4, none⟩ = some (.int .i64 z)) ∧ Below u3.heap.size u3 W')) (by kernel_rfl) ?_ (fun hHeld => ?_)
  · exact ⟨⟨c0, c4, c4, c4, c4, c4⟩, (Below.refl _ _).drew⟩
  refine wpAnyH_take (i := 0) (oi := ?ooa0) (v := ?vva0) ?hia0 (by kernel_rfl) ?h3a0 ?h4a0 ?h5a0 ?h6a0 (by assumption) ?h8a0
  case hia0 => (simp only [List.getElem?_toArray, List.getElem?_cons_succ, List.getElem?_cons_zero]; rfl)
  case h3a0 => kernel_rfl
  case h4a0 => kernel_rfl
  case h6a0 => (refine Or.inl ⟨by rfl, ?_⟩; intro w hSw; (try dsimp only at hSw); (go_simp <;> with_reducible rfl))
  case h5a0 => exact fun _ _ _ h => h
  try simp only [Act.put, List.setIfInBounds_toArray, List.set_cons_zero, List.set_cons_succ]
  refine wpAnyH_take (i := 1) (oi := ?ooa1) (v := ?vva1) ?hia1 (by kernel_rfl) ?h3a1 ?h4a1 ?h5a1 ?h6a1 (by assumption) ?h8a1
  case hia1 => (simp only [List.getElem?_toArray, List.getElem?_cons_succ, List.getElem?_cons_zero]; rfl)
  case h3a1 => kernel_rfl
  case h4a1 => kernel_rfl
  case h6a1 => (refine Or.inl ⟨by rfl, ?_⟩; intro w hSw; (try dsimp only at hSw); (go_simp <;> with_reducible rfl))
  case h5a1 => exact fun _ _ _ h => h
  try simp only [Act.put, List.setIfInBounds_toArray, List.set_cons_zero, List.set_cons_succ]
  refine wpAnyH_take (i := 2) (oi := ?ooa2) (v := ?vva2) ?hia2 (by kernel_rfl) ?h3a2 ?h4a2 ?h5a2 ?h6a2 (by assumption) ?h8a2
  case hia2 => (simp only [List.getElem?_toArray, List.getElem?_cons_succ, List.getElem?_cons_zero]; rfl)
  case h3a2 => kernel_rfl
  case h4a2 => kernel_rfl
  case h6a2 => (refine Or.inl ⟨by rfl, ?_⟩; intro w hSw; (try dsimp only at hSw); (go_simp <;> with_reducible rfl))
  case h5a2 => exact fun _ _ _ h => h
  try simp only [Act.put, List.setIfInBounds_toArray, List.set_cons_zero, List.set_cons_succ]
  refine wpAnyH_take (i := 3) (oi := ?ooa3) (v := ?vva3) ?hia3 (by kernel_rfl) ?h3a3 ?h4a3 ?h5a3 ?h6a3 (by assumption) ?h8a3
  case hia3 => (simp only [List.getElem?_toArray, List.getElem?_cons_succ, List.getElem?_cons_zero]; rfl)
  case h3a3 => kernel_rfl
  case h4a3 => kernel_rfl
  case h6a3 => (refine Or.inl ⟨by rfl, ?_⟩; intro w hSw; (try dsimp only at hSw); (go_simp <;> with_reducible rfl))
  case h5a3 => exact fun _ _ _ h => h
  try simp only [Act.put, List.setIfInBounds_toArray, List.set_cons_zero, List.set_cons_succ]
  refine wpAnyH_take (i := 4) (oi := ?ooa4) (v := ?vva4) ?hia4 (by kernel_rfl) ?h3a4 ?h4a4 ?h5a4 ?h6a4 (by assumption) ?h8a4
  case hia4 => (simp only [List.getElem?_toArray, List.getElem?_cons_succ, List.getElem?_cons_zero]; rfl)
  case h3a4 => kernel_rfl
  case h4a4 => kernel_rfl
  case h6a4 => (refine Or.inl ⟨by rfl, ?_⟩; intro w hSw; (try dsimp only at hSw); (go_simp <;> with_reducible rfl))
  case h5a4 => exact fun _ _ _ h => h
  try simp only [Act.put, List.setIfInBounds_toArray, List.set_cons_zero, List.set_cons_succ]
  refine wpAnyH_take (i := 5) (oi := ?ooa5) (v := ?vva5) ?hia5 (by kernel_rfl) ?h3a5 ?h4a5 ?h5a5 ?h6a5 (by assumption) ?h8a5
  case hia5 => (simp only [List.getElem?_toArray, List.getElem?_cons_succ, List.getElem?_cons_zero]; rfl)
  case h3a5 => kernel_rfl
  case h4a5 => kernel_rfl
  case h6a5 => (refine Or.inl ⟨by rfl, ?_⟩; intro w hSw; (try dsimp only at hSw); (go_simp <;> with_reducible rfl))
  case h5a5 => exact fun _ _ _ h => h
  try simp only [Act.put, List.setIfInBounds_toArray, List.set_cons_zero, List.set_cons_succ]
  refine wpAnyH_take (i := 7) (oi := ?ooa7) (v := ?vva7) ?hia7 (by kernel_rfl) ?h3a7 ?h4a7 ?h5a7 ?h6a7 (by assumption) ?h8a7
  case hia7 => (simp only [List.getElem?_toArray, List.getElem?_cons_succ, List.getElem?_cons_zero]; rfl)
  case h3a7 => kernel_rfl
  case h4a7 => kernel_rfl
  case h6a7 => (refine Or.inl ⟨by rfl, ?_⟩; intro w hSw; (try dsimp only at hSw); (go_simp <;> with_reducible rfl))
  case h5a7 => exact fun _ _ _ h => h
  try simp only [Act.put, List.setIfInBounds_toArray, List.set_cons_zero, List.set_cons_succ]
  refine wpAnyH_take (i := 8) (oi := ?ooa8) (v := ?vva8) ?hia8 (by kernel_rfl) ?h3a8 ?h4a8 ?h5a8 ?h6a8 (by assumption) ?h8a8
  case hia8 => (simp only [List.getElem?_toArray, List.getElem?_cons_succ, List.getElem?_cons_zero]; rfl)
  case h3a8 => kernel_rfl
  case h4a8 => kernel_rfl
  case h6a8 => (refine Or.inl ⟨by rfl, ?_⟩; intro w hSw; (try dsimp only at hSw); (go_simp <;> with_reducible rfl))
  case h5a8 => exact fun _ _ _ h => h
  try simp only [Act.put, List.setIfInBounds_toArray, List.set_cons_zero, List.set_cons_succ]
  refine wpAnyH_take (i := 9) (oi := ?ooa9) (v := ?vva9) ?hia9 (by kernel_rfl) ?h3a9 ?h4a9 ?h5a9 ?h6a9 (by assumption) ?h8a9
  case hia9 => (simp only [List.getElem?_toArray, List.getElem?_cons_succ, List.getElem?_cons_zero]; rfl)
  case h3a9 => kernel_rfl
  case h4a9 => kernel_rfl
  case h6a9 => (refine Or.inl ⟨by rfl, ?_⟩; intro w hSw; (try dsimp only at hSw); (go_simp <;> with_reducible rfl))
  case h5a9 => exact fun _ _ _ h => h
  try simp only [Act.put, List.setIfInBounds_toArray, List.set_cons_zero, List.set_cons_succ]
  refine wpAnyH_take (i := 10) (oi := ?ooa10) (v := ?vva10) ?hia10 (by kernel_rfl) ?h3a10 ?h4a10 ?h5a10 ?h6a10 (by assumption) ?h8a10
  case hia10 => (simp only [List.getElem?_toArray, List.getElem?_cons_succ, List.getElem?_cons_zero]; rfl)
  case h3a10 => kernel_rfl
  case h4a10 => kernel_rfl
  case h6a10 => (refine Or.inl ⟨by rfl, ?_⟩; intro w hSw; (try dsimp only at hSw); (go_simp <;> with_reducible rfl))
  case h5a10 => exact fun _ _ _ h => h
  try simp only [Act.put, List.setIfInBounds_toArray, List.set_cons_zero, List.set_cons_succ]
  refine wpAnyH_take (i := 11) (oi := ?ooa11) (v := ?vva11) ?hia11 (by kernel_rfl) ?h3a11 ?h4a11 ?h5a11 ?h6a11 (by assumption) ?h8a11
  case hia11 => (simp only [List.getElem?_toArray, List.getElem?_cons_succ, List.getElem?_cons_zero]; rfl)
  case h3a11 => kernel_rfl
  case h4a11 => kernel_rfl
  case h6a11 => (refine Or.inl ⟨by rfl, ?_⟩; intro w hSw; (try dsimp only at hSw); (go_simp <;> with_reducible rfl))
  case h5a11 => exact fun _ _ _ h => h
  try simp only [Act.put, List.setIfInBounds_toArray, List.set_cons_zero, List.set_cons_succ]
  refine wpAnyH_take (i := 13) (oi := ?ooa13) (v := ?vva13) ?hia13 (by kernel_rfl) ?h3a13 ?h4a13 ?h5a13 ?h6a13 (by assumption) ?h8a13
  case hia13 => (simp only [List.getElem?_toArray, List.getElem?_cons_succ, List.getElem?_cons_zero]; rfl)
  case h3a13 => kernel_rfl
  case h4a13 => kernel_rfl
  case h6a13 => (refine Or.inl ⟨by rfl, ?_⟩; intro w hSw; (try dsimp only at hSw); (go_simp <;> with_reducible rfl))
  case h5a13 => exact fun _ _ _ h => h
  try simp only [Act.put, List.setIfInBounds_toArray, List.set_cons_zero, List.set_cons_succ]
  refine wpAnyH_ready (rs := [6]) (by kernel_rfl) (by simp) (AllReadyH.cons (o := ?ooa6) ?hia6 (fun K hK => ?hka6) AllReadyH.nil)
  rotate_left
  case hia6 => (simp only [List.getElem?_toArray, List.getElem?_cons_succ, List.getElem?_cons_zero]; rfl)
  (rw [if_pos (by rfl)]; go_simp; refine (DM.out _ (nd_below HI.out hHeld.2)).mono ?_; rintro e wq ⟨rfl, hb⟩; go_wp2_with fail; refine hK.out _ _ (kp6 hb hHeld) (fun hHeld => ?_); clear hK K)
  try simp only [Act.put, List.setIfInBounds_toArray, List.set_cons_zero, List.set_cons_succ]
  refine wpAnyH_take (i := 12) (oi := ?ooa12) (v := ?vva12) ?hia12 (by kernel_rfl) ?h3a12 ?h4a12 ?h5a12 ?h6a12 (by assumption) ?h8a12
  case hia12 => (simp only [List.getElem?_toArray, List.getElem?_cons_succ, List.getElem?_cons_zero]; rfl)
  case h3a12 => kernel_rfl
  case h4a12 => kernel_rfl
  case h6a12 => (refine Or.inl ⟨by rfl, ?_⟩; intro w hSw; (try dsimp only at hSw); (go_simp <;> with_reducible rfl))
  case h5a12 => exact fun _ _ _ h => h
  try simp only [Act.put, List.setIfInBounds_toArray, List.set_cons_zero, List.set_cons_succ]
  refine wpAnyH_take (i := 14) (oi := ?ooa14) (v := ?vva14) ?hia14 (by kernel_rfl) ?h3a14 ?h4a14 ?h5a14 ?h6a14 (by assumption) ?h8a14
  case hia14 => (simp only [List.getElem?_toArray, List.getElem?_cons_succ, List.getElem?_cons_zero]; rfl)
  case h3a14 => kernel_rfl
  case h4a14 => kernel_rfl
  case h6a14 => (refine Or.inl ⟨by rfl, ?_⟩; intro w hSw; (try dsimp only at hSw); (go_simp <;> with_reducible rfl))
  case h5a14 => exact fun _ _ _ h => h
  try simp only [Act.put, List.setIfInBounds_toArray, List.set_cons_zero, List.set_cons_succ]
  refine wpAnyH_take (i := 15) (oi := ?ooa15) (v := ?vva15) ?hia15 (by kernel_rfl) ?h3a15 ?h4a15 ?h5a15 ?h6a15 (by assumption) ?h8a15
  case hia15 => (simp only [List.getElem?_toArray, List.getElem?_cons_succ, List.getElem?_cons_zero]; rfl)
  case h3a15 => kernel_rfl
  case h4a15 => kernel_rfl
  case h6a15 => (refine Or.inl ⟨by rfl, ?_⟩; intro w hSw; (try dsimp only at hSw); (go_simp <;> with_reducible rfl))
  case h5a15 => exact fun _ _ _ h => h
  try simp only [Act.put, List.setIfInBounds_toArray, List.set_cons_zero, List.set_cons_succ]
  refine wpAnyH_done (by kernel_rfl) ?_ _
  have HF := Lib.hid (bel_tr HB.out hHeld.2)
  clear hHeld hb
  go_wp2_with fail
  go_ret
  exact ⟨rfl, HF.out⟩

set_option maxRecDepth 100000 in
theorem lifted (os : Os) (started : os.Started) (H : Type) (enc : TypeId × Value → H) :
    ReturnsInHanded {} Try.checked os 6 .any (Rows.fnDelayToSpec.pre6 enc Try.prog Try.f6 Rows.fnDelayToRow.domain false) (Rows.fnDelayToSpec.post enc Try.prog Try.f6 false true false false) := by
  refine returnsInHanded_of_change (C := Try.checked) own started (by kernel_rfl) Try.func6
    (ChangeSpec.witness6 (enc := enc) (C := Try.checked) false ⟨#[], #[.slice none 0 0], []⟩ 8 (by kernel_rfl) (by kernel_rfl) (by kernel_rfl) (by kernel_rfl)) ?_
  intro W base args ds gs before hval0 hW hcnd _
  have hval : ∀ (j : Nat) t v, Try.f6.params[j]? = some t → args[j]? = some v → Value.okWide Try.prog W .any base t v := hval0
  have hW' := hW
  obtain ⟨p, q, hA0, hV, rfl, hfz, hnd⟩ := hW
  have hA : DataW.TrodAll enc Try.prog W 0 (fun _ => true) true Try.f6.params.toList args.toList ds p := hA0
  rw [Try.params6] at hA hval
  obtain ⟨v0, vs0, e0, es0, p0, q0, hargs, rfl, rfl, h0, r0⟩ := trodAll_cons hA
  obtain ⟨rfl, rfl, rfl⟩ := trodAll_nil r0
  obtain rfl : args = #[v0] := by cases args; simp_all
  obtain ⟨rfl, rfl⟩ := trodVars_none hV
  have k0 := h0
  have lt0 : ∀ x ∈ p0, x.block < W.heap.size := by obtain ⟨m, hm⟩ := k0; exact DataW.trod_lt m _ _ _ hm
  obtain ⟨a0, len0, cap0, rfl⟩ := okWide_slice Try.underlying22 (hval 0 22 v0 rfl rfl)
  obtain ⟨z0, w0⟩ : ∃ zs, IsRow .u8 W a0 len0 cap0 zs := by
    obtain ⟨fuel, hf⟩ := h0
    rcases open_ints Try.underlying22 Try.underlying5 (by kernel_rfl) hf with ⟨hcs, _⟩ | ⟨x, l, c, zs, hcs, _, hl, hm, hz, _, hcell, hwz⟩
    · simp [Value.cells] at hcs
      obtain ⟨rfl, rfl, rfl⟩ := hcs
      exact ⟨[], .inl ⟨rfl, rfl, rfl, rfl⟩⟩
    · simp [Value.cells] at hcs
      obtain ⟨rfl, rfl, rfl⟩ := hcs
      exact ⟨zs, .inr ⟨_, rfl, hl, hm, by simpa using hz, hcell, hwz⟩⟩
  clear hA0 hval0
  refine (walk a0 len0 cap0 z0 W w0).mono fun e W' ⟨he, bel⟩ => ?_
  subst he
  exact ⟨_, rfl, _, _, _, [], _, [], hW', trodAll_mk1 (shut_bool Try.underlying4 _), (trodAll_cons_mk (Below.trod laidOut (by kernel_rfl) (of_decide_eq_true (by kernel_rfl)) k0 bel lt0) trodAll_mk0), rfl, bel.frame _, fun h => by cases h⟩

theorem over : Rows.fnDelayToRow.holds Try.pinned (OpenSpec.ofChange Rows.fnDelayToSpec) :=
  OpenClaim.holds_of_wide 6 Try.f6 rfl rfl rfl rfl rfl rfl rfl ⟨rfl, rfl, rfl, rfl, rfl⟩ rfl rfl rfl rfl rfl (by kernel_rfl) Try.func6 (by kernel_rfl)
    (of_decide_eq_true (by kernel_rfl)) (by unfold Func.isWrapper; first | (rw [if_pos (by decide +kernel)]; kernel_rfl) | (rw [if_neg (by decide +kernel)]; exact ⟨rfl, rfl⟩))
    (fun os started H enc _ => lifted os started H enc)

end Go.Proofs.Ytbmpcggdkeakeaa.fnDelayTo
namespace Go.Proofs.Ytbmpcggdkeakeaa
/-- the statement -/
theorem fnDelayTo_holds : Rows.FnDelayToSaid := fnDelayTo.over
end Go.Proofs.Ytbmpcggdkeakeaa
