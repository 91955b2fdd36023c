/- For every input the law answers true, and its arguments read afterwards as before: impl.FormatEvent answers as its model. No condition. -/
import Derived.Test.YthagafkjlecagaaRows
import Derived.Test.YthagafkjlecagaaGrD
import Derived.Test.YthagafkjlecagaaGrC
import Derived.WalkKit
import Derived.Deep.RegionHeld3
import Derived.Deep.RegionWith
import Derived.Deep.QuietTactic
import Derived.BigQuiet
import Derived.RegionTactic
import Derived.BigRegion
import Derived.ProofKit
import Derived.OpenShut
import Derived.ShutString
import Derived.ChangeOld
import Derived.Below
import Derived.Lib.SmallJoins
namespace Go.Proofs.Ythagafkjlecagaa.fnExactFormatEvent
open Go.ChangeShapes Go.WideShapes Go.ChangeAt Go.RowKit Go.Joins
open Go.ChangeMaps (open_string shut_string)
set_option linter.unusedVariables false
set_option linter.unusedSimpArgs false

theorem own : ownKnob Try.prog.godebug = none := by kernel_rfl
theorem laidOut : laidOutB Try.prog = true := by kernel_rfl

set_option maxRecDepth 100000 in
set_option maxHeartbeats 8000000 in
theorem walk (ea0 : Option Addr) (ec0 : Nat) (ev0 : Ev) (w : World) (w0 : EvIn w ea0 ec0 ev0) :
    Calls Try.prog 3 #[evI ea0 ec0 ev0] w fun e w' => e = .returned (.bool true) ∧ Below w.heap.size w w' := by
  obtain ⟨k, ⟨dk, o, t, n, d, zs⟩, at_, nu⟩ := ev0
  obtain ⟨h0, h1, h2⟩ := w0
  dsimp only at h0 h1 h2
  change Calls _ _ #[.agg #[.int .i64 k, .int .i64 dk, .int .i64 o, .int .i64 t, .int .i64 n, .int .i64 d, .slice ea0 zs.length ec0, .int .i64 at_, .int .i64 nu]] _ _
  have l1 : zs.length ≤ 9223372036854775807 := by unfold maxLen at h2; omega
  have CZ := Lib.hid (fun W => lszEv ea0 ec0 ⟨k, ⟨dk, o, t, n, d, zs⟩, at_, nu⟩ 1048576 W (by omega) (by omega) l1)
  dsimp only at CZ
  have B := (Below.refl w.heap.size w).alloc (Nat.le_refl _) (.cells #[.int .i64 k, .int .i64 dk, .int .i64 o, .int .i64 t, .int .i64 n, .int .i64 d, .slice ea0 zs.length ec0, .int .i64 at_, .int .i64 nu] 28)
  have K0 := Blk.new w 28 #[.int .i64 k, .int .i64 dk, .int .i64 o, .int .i64 t, .int .i64 n, .int .i64 d, .slice ea0 zs.length ec0, .int .i64 at_, .int .i64 nu]
  by_cases big : (1048576 : Int) - (zs.length : Int) < 0
  · rw [if_pos big] at CZ
    clear big l1 h0 h1 h2
    obtain ⟨q0, q1, q2, q3, q4, q5, q6, q7, q8⟩ := cells9 K0
    go_enter Try.func3, Try.ntmps3
    go_wp2_with fail
    refine (CZ.out _).mono ?_
    rintro e u ⟨rfl, C⟩
    replace B := bel_tr B C
    go_wp2_with fail
    go_ret
    exact ⟨rfl, B⟩
  rw [if_neg big] at CZ
  have nz : zs.length ≤ 1048576 := by omega
  have eb : decide ((1048576 : Int) - (zs.length : Int) < 0) = false := decide_eq_false big
  have nb : ¬ (1048576 : Int) - (zs.length : Int) < 0 := big
  have HI := Lib.hid h0
  have CT := Lib.hid (fun W (hW : Below w.heap.size w W) => ltoEv ea0 ec0 ⟨k, ⟨dk, o, t, n, d, zs⟩, at_, nu⟩ W (ints_below h0 hW) nz)
  have CS := Lib.hid (fun A c W (hW : IsInts W A zs) => sFmtE A c ⟨k, ⟨dk, o, t, n, d, zs⟩, at_, nu⟩ W hW)
  have CI := Lib.hid (fun A c W (hW : IsInts W A zs) => iFmtE A c ⟨k, ⟨dk, o, t, n, d, zs⟩, at_, nu⟩ W hW)
  have CE := Lib.hid (fun A1 A2 p1 p2 W (h1 : IsInts W A1 zs) (h2 : IsInts W A2 zs) => leqEv A1 A2 p1 p2 ⟨k, ⟨dk, o, t, n, d, zs⟩, at_, nu⟩ W h1 h2 nz)
  dsimp only at CS CI CE
  obtain ⟨T, hT⟩ : ∃ T, fmE ⟨k, ⟨dk, o, t, n, d, zs⟩, at_, nu⟩ = T := ⟨_, rfl⟩
  rw [hT] at CS CI
  clear hT l1 h0 h1 h2 big
  generalize (1048576 : Int) - (zs.length : Int) = L at *
  obtain ⟨q0, q1, q2, q3, q4, q5, q6, q7, q8⟩ := cells9 K0
  go_enter Try.func3, Try.ntmps3
  go_wp2_with fail
  refine (CZ.out _).mono ?_
  rintro e u1 ⟨rfl, C⟩
  clear q0 q1 q2 q3 q4 q5 q6 q7 q8
  replace K0 := K0.next C
  replace B := bel_tr B C
  clear C
  obtain ⟨q0, q1, q2, q3, q4, q5, q6, q7, q8⟩ := cells9 K0
  go_wp2_with fail
  refine (CT.out _ B).mono ?_
  rintro e u2 ⟨g0, rfl, l1, R1, C⟩
  clear q0 q1 q2 q3 q4 q5 q6 q7 q8
  dsimp only at R1
  replace K0 := K0.next C
  replace B := bel_tr B C
  clear C l1
  obtain ⟨q0, q1, q2, q3, q4, q5, q6, q7, q8⟩ := cells9 K0
  go_wp2_with fail
  refine (CS.out _ _ _ (row_ints R1)).mono ?_
  rintro e u3 ⟨rfl, C⟩
  clear q0 q1 q2 q3 q4 q5 q6 q7 q8 R1
  replace K0 := K0.next C
  replace B := bel_tr B C
  clear C
  obtain ⟨q0, q1, q2, q3, q4, q5, q6, q7, q8⟩ := cells9 K0
  go_wp2_with fail
  refine (CT.out _ B).mono ?_
  rintro e u4 ⟨g1, rfl, l1, R1, C⟩
  clear q0 q1 q2 q3 q4 q5 q6 q7 q8
  dsimp only at R1
  replace K0 := K0.next C
  replace B := bel_tr B C
  clear C l1
  obtain ⟨u4b, hu⟩ : ∃ y, y = u4.alloc (.cells #[.int .i64 k, .int .i64 dk, .int .i64 o, .int .i64 t, .int .i64 n, .int .i64 d, .slice (some ⟨g1, 0, none⟩) zs.length zs.length, .int .i64 at_, .int .i64 nu] 35) := ⟨_, rfl⟩
  have I1 : IsInts u4b (some ⟨g1, 0, none⟩) zs := by subst hu; exact ints_below (row_ints R1) ((Below.refl _ _).alloc (Nat.le_refl _) _)
  have K1 : Blk u4b u4.heap.size 35 #[.int .i64 k, .int .i64 dk, .int .i64 o, .int .i64 t, .int .i64 n, .int .i64 d, .slice (some ⟨g1, 0, none⟩) zs.length zs.length, .int .i64 at_, .int .i64 nu] := by subst hu; exact Blk.new u4 35 _
  replace K0 : Blk u4b w.heap.size 28 #[.int .i64 k, .int .i64 dk, .int .i64 o, .int .i64 t, .int .i64 n, .int .i64 d, .slice ea0 zs.length ec0, .int .i64 at_, .int .i64 nu] := by subst hu; exact K0.alloc _
  replace B : Below w.heap.size w u4b := by subst hu; exact B.alloc B.size _
  have HU := Lib.hid hu
  clear hu R1
  obtain ⟨q0, q1, q2, q3, q4, q5, q6, q7, q8⟩ := cells9 K0
  obtain ⟨r0, r1, r2, r3, r4, r5, r6, r7, r8⟩ := cells9 K1
  go_wp2_with fail
  rw [← HU.out]
  refine (CI.out _ _ _ I1).mono ?_
  rintro e u5 ⟨rfl, C⟩
  clear q0 q1 q2 q3 q4 q5 q6 q7 q8 r0 r1 r2 r3 r4 r5 r6 r7 r8
  replace I1 := ints_below I1 C
  replace K0 := K0.next C
  replace K1 := K1.next C
  replace B := bel_tr B C
  clear C
  have k0 := K0.lt
  have k1 := K1.lt
  have HB := Lib.hid B
  have I1d : IsInts u5.drew (some ⟨g1, 0, none⟩) zs := I1
  clear I1
  obtain ⟨q0, q1, q2, q3, q4, q5, q6, q7, q8⟩ := cells9 K0
  obtain ⟨r0, r1, r2, r3, r4, r5, r6, r7, r8⟩ := cells9 K1
  go_wp2_with fail
  have HMK1 := Lib.hid (fun (W : World) (hW : Below u5.heap.size u5 W) => (⟨⟨(hW.cell (p := ⟨w.heap.size, 0, none⟩) (k0)).trans q0, (hW.cell (p := ⟨w.heap.size, 1, none⟩) (k0)).trans q1, (hW.cell (p := ⟨w.heap.size, 2, none⟩) (k0)).trans q2, (hW.cell (p := ⟨w.heap.size, 3, none⟩) (k0)).trans q3, (hW.cell (p := ⟨w.heap.size, 4, none⟩) (k0)).trans q4, (hW.cell (p := ⟨w.heap.size, 5, none⟩) (k0)).trans q5, (hW.cell (p := ⟨w.heap.size, 6, none⟩) (k0)).trans q6, (hW.cell (p := ⟨w.heap.size, 7, none⟩) (k0)).trans q7, (hW.cell (p := ⟨w.heap.size, 8, none⟩) (k0)).trans q8, (hW.cell (p := ⟨u4.heap.size, 0, none⟩) (k1)).trans r0, (hW.cell (p := ⟨u4.heap.size, 1, none⟩) (k1)).trans r1, (hW.cell (p := ⟨u4.heap.size, 2, none⟩) (k1)).trans r2, (hW.cell (p := ⟨u4.heap.size, 3, none⟩) (k1)).trans r3, (hW.cell (p := ⟨u4.heap.size, 4, none⟩) (k1)).trans r4, (hW.cell (p := ⟨u4.heap.size, 5, none⟩) (k1)).trans r5, (hW.cell (p := ⟨u4.heap.size, 6, none⟩) (k1)).trans r6, (hW.cell (p := ⟨u4.heap.size, 7, none⟩) (k1)).trans r7, (hW.cell (p := ⟨u4.heap.size, 8, none⟩) (k1)).trans r8⟩, hW⟩ : (W.cell? ⟨w.heap.size, 0, none⟩ = some (.int .i64 k) ∧ W.cell? ⟨w.heap.size, 1, none⟩ = some (.int .i64 dk) ∧ W.cell? ⟨w.heap.size, 2, none⟩ = some (.int .i64 o) ∧ W.cell? ⟨w.heap.size, 3, none⟩ = some (.int .i64 t) ∧ W.cell? ⟨w.heap.size, 4, none⟩ = some (.int .i64 n) ∧ W.cell? ⟨w.heap.size, 5, none⟩ = some (.int .i64 d) ∧ W.cell? ⟨w.heap.size, 6, none⟩ = some (.slice ea0 zs.length ec0) ∧ W.cell? ⟨w.heap.size, 7, none⟩ = some (.int .i64 at_) ∧ W.cell? ⟨w.heap.size, 8, none⟩ = some (.int .i64 nu) ∧ W.cell? ⟨u4.heap.size, 0, none⟩ = some (.int .i64 k) ∧ W.cell? ⟨u4.heap.size, 1, none⟩ = some (.int .i64 dk) ∧ W.cell? ⟨u4.heap.size, 2, none⟩ = some (.int .i64 o) ∧ W.cell? ⟨u4.heap.size, 3, none⟩ = some (.int .i64 t) ∧ W.cell? ⟨u4.heap.size, 4, none⟩ = some (.int .i64 n) ∧ W.cell? ⟨u4.heap.size, 5, none⟩ = some (.int .i64 d) ∧ W.cell? ⟨u4.heap.size, 6, none⟩ = some (.slice (some ⟨g1, 0, none⟩) zs.length zs.length) ∧ W.cell? ⟨u4.heap.size, 7, none⟩ = some (.int .i64 at_) ∧ W.cell? ⟨u4.heap.size, 8, none⟩ = some (.int .i64 nu)) ∧ Below u5.heap.size u5 W))
  refine wp_region_held_drew (S := (fun w' => (w'.cell? ⟨w.heap.size, 0, none⟩ = some (.int .i64 k) ∧ w'.cell? ⟨w.heap.size, 1, none⟩ = some (.int .i64 dk) ∧ w'.cell? ⟨w.heap.size, 2, none⟩ = some (.int .i64 o) ∧ w'.cell? ⟨w.heap.size, 3, none⟩ = some (.int .i64 t) ∧ w'.cell? ⟨w.heap.size, 4, none⟩ = some (.int .i64 n) ∧ w'.cell? ⟨w.heap.size, 5, none⟩ = some (.int .i64 d) ∧ w'.cell? ⟨w.heap.size, 6, none⟩ = some (.slice ea0 zs.length ec0) ∧ w'.cell? ⟨w.heap.size, 7, none⟩ = some (.int .i64 at_) ∧ w'.cell? ⟨w.heap.size, 8, none⟩ = some (.int .i64 nu) ∧ w'.cell? ⟨u4.heap.size, 0, none⟩ = some (.int .i64 k) ∧ w'.cell? ⟨u4.heap.size, 1, none⟩ = some (.int .i64 dk) ∧ w'.cell? ⟨u4.heap.size, 2, none⟩ = some (.int .i64 o) ∧ w'.cell? ⟨u4.heap.size, 3, none⟩ = some (.int .i64 t) ∧ w'.cell? ⟨u4.heap.size, 4, none⟩ = some (.int .i64 n) ∧ w'.cell? ⟨u4.heap.size, 5, none⟩ = some (.int .i64 d) ∧ w'.cell? ⟨u4.heap.size, 6, none⟩ = some (.slice (some ⟨g1, 0, none⟩) zs.length zs.length) ∧ w'.cell? ⟨u4.heap.size, 7, none⟩ = some (.int .i64 at_) ∧ w'.cell? ⟨u4.heap.size, 8, none⟩ = some (.int .i64 nu)) ∧ Below u5.heap.size u5 w')) (by kernel_rfl) ?_ (fun hHeld => ?_)
  · exact ⟨⟨q0, q1, q2, q3, q4, q5, q6, q7, q8, r0, r1, r2, r3, r4, r5, r6, r7, r8⟩, (Below.refl _ _).drew⟩
  refine wpAnyH_take (i := 0) (oi := ?ooa2_) (v := ?vva2_) ?hia2_ (by kernel_rfl) ?h3a2_ ?h4a2_ ?h5a2_ ?h6a2_ (by assumption) ?h8a2_
  case hia2_ => (simp only [List.getElem?_toArray, List.getElem?_cons_succ, List.getElem?_cons_zero]; rfl)
  case h3a2_ => kernel_rfl
  case h4a2_ => kernel_rfl
  case h6a2_ => (refine Or.inl ⟨by rfl, ?_⟩; intro w hSw; (try dsimp only at hSw); (go_simp <;> with_reducible rfl))
  case h5a2_ => exact fun _ _ _ h => h
  try simp only [Act.put, List.setIfInBounds_toArray, List.set_cons_zero, List.set_cons_succ]
  refine wpAnyH_take (i := 1) (oi := ?ooa3_) (v := ?vva3_) ?hia3_ (by kernel_rfl) ?h3a3_ ?h4a3_ ?h5a3_ ?h6a3_ (by assumption) ?h8a3_
  case hia3_ => (simp only [List.getElem?_toArray, List.getElem?_cons_succ, List.getElem?_cons_zero]; rfl)
  case h3a3_ => kernel_rfl
  case h4a3_ => kernel_rfl
  case h6a3_ => (refine Or.inl ⟨by rfl, ?_⟩; intro w hSw; (try dsimp only at hSw); (go_simp <;> with_reducible rfl))
  case h5a3_ => exact fun _ _ _ h => h
  try simp only [Act.put, List.setIfInBounds_toArray, List.set_cons_zero, List.set_cons_succ]
  refine wpAnyH_ready (rs := [2]) (by kernel_rfl) (by simp) (AllReadyH.cons (o := ?ooa4_q0) ?hia4_q0 (fun K hK => ?hka4_q0) AllReadyH.nil)
  case hia4_q0 => (simp only [List.getElem?_toArray, List.getElem?_cons_succ, List.getElem?_cons_zero]; rfl)
  case hka4_q0 =>
    (rw [if_pos (by rfl)]; go_simp; refine (CT.out _ (bel_tr HB.out hHeld.2)).mono ?_; rintro e v2_ ⟨g2, rfl, lg2, Rg2, hb2⟩; dsimp only at Rg2; replace I1d := ints_below I1d hb2; go_wp2_with fail; refine hK.out _ _ (HMK1.out _ (bel_tr hHeld.2 hb2)) (fun hHeld => ?_); clear hK K)
    try simp only [Act.put, List.setIfInBounds_toArray, List.set_cons_zero, List.set_cons_succ]
    refine wpAnyH_ready (rs := [3]) (by kernel_rfl) (by simp) (AllReadyH.cons (o := ?ooa5_q0) ?hia5_q0 (fun K hK => ?hka5_q0) AllReadyH.nil)
    case hia5_q0 => (simp only [List.getElem?_toArray, List.getElem?_cons_succ, List.getElem?_cons_zero]; rfl)
    case hka5_q0 =>
      (rw [if_pos (by rfl)]; go_simp; refine (CE.out _ _ _ _ _ I1d (row_ints Rg2)).mono ?_; rintro e v3_ ⟨rfl, hb3⟩; replace I1d := ints_below I1d hb3; replace Rg2 := row_keep Rg2 hb3; go_wp2_with fail; refine hK.out _ _ (HMK1.out _ (bel_tr hHeld.2 hb3)) (fun hHeld => ?_); clear hK K)
      try simp only [Act.put, List.setIfInBounds_toArray, List.set_cons_zero, List.set_cons_succ]
      refine wpAnyH_take (i := 4) (oi := ?ooa6_) (v := ?vva6_) ?hia6_ (by kernel_rfl) ?h3a6_ ?h4a6_ ?h5a6_ ?h6a6_ (by assumption) ?h8a6_
      case hia6_ => (simp only [List.getElem?_toArray, List.getElem?_cons_succ, List.getElem?_cons_zero]; rfl)
      case h3a6_ => kernel_rfl
      case h4a6_ => kernel_rfl
      case h6a6_ => (refine Or.inl ⟨by rfl, ?_⟩; intro w hSw; (try dsimp only at hSw); (go_simp <;> with_reducible rfl))
      case h5a6_ => exact fun _ _ _ h => h
      try simp only [Act.put, List.setIfInBounds_toArray, List.set_cons_zero, List.set_cons_succ]
      refine wpAnyH_done (by kernel_rfl) ?_ _
      clear HMK1
      have B2 := bel_tr HB.out hHeld.2
      clear hHeld
      go_wp2_with fail
      go_ret
      exact ⟨rfl, B2⟩

set_option maxRecDepth 100000 in
theorem lifted (os : Os) (started : os.Started) (H : Type) (enc : TypeId × Value → H) :
    ReturnsInHanded {} Try.checked os 3 .any (Rows.fnExactFormatEventSpec.pre6 enc Try.prog Try.f3 Rows.fnExactFormatEventRow.domain false) (Rows.fnExactFormatEventSpec.post enc Try.prog Try.f3 false true false false) := by
  refine returnsInHanded_of_change (C := Try.checked) own started (by kernel_rfl) Try.func3
    (ChangeSpec.witness6 (enc := enc) (C := Try.checked) false ⟨#[], #[.agg #[.int .i64 0, .int .i64 0, .int .i64 0, .int .i64 0, .int .i64 0, .int .i64 0, .slice none 0 0, .int .i64 0, .int .i64 0]], []⟩ 8 (by kernel_rfl) (by kernel_rfl) (by kernel_rfl) (by kernel_rfl)) ?_
  intro W base args ds gs before hval0 hW hcnd _
  have hval : ∀ (j : Nat) t v, Try.f3.params[j]? = some t → args[j]? = some v → Value.okWide Try.prog W .any base t v := hval0
  have hW' := hW
  obtain ⟨p, q, hA0, hV, rfl, hfz, hnd⟩ := hW
  have hA : DataW.TrodAll enc Try.prog W 0 (fun _ => true) true Try.f3.params.toList args.toList ds p := hA0
  rw [Try.params3] at hA hval
  obtain ⟨v0, vs0, e0, es0, p0, q0, hargs, rfl, rfl, h0, r0⟩ := trodAll_cons hA
  obtain ⟨rfl, rfl, rfl⟩ := trodAll_nil r0
  obtain rfl : args = #[v0] := by cases args; simp_all
  obtain ⟨rfl, rfl⟩ := trodVars_none hV
  have k0 := h0
  have lt0 : ∀ x ∈ p0, x.block < W.heap.size := by obtain ⟨m, hm⟩ := k0; exact DataW.trod_lt m _ _ _ hm
  obtain ⟨ea0, ec0, ev0, rfl, w0⟩ := open_event (hval 0 28 v0 rfl rfl) h0
  clear hA0 hval0
  refine (walk ea0 ec0 ev0 W w0).mono fun e W' ⟨he, bel⟩ => ?_
  subst he
  exact ⟨_, rfl, _, _, _, [], _, [], hW', trodAll_mk1 (shut_bool Try.underlying4 _), (trodAll_cons_mk (Below.trod laidOut (by kernel_rfl) (of_decide_eq_true (by kernel_rfl)) k0 bel lt0) trodAll_mk0), rfl, bel.frame _, fun h => by cases h⟩

theorem over : Rows.fnExactFormatEventRow.holds Try.pinned (OpenSpec.ofChange Rows.fnExactFormatEventSpec) :=
  OpenClaim.holds_of_wide 3 Try.f3 rfl rfl rfl rfl rfl rfl rfl ⟨rfl, rfl, rfl, rfl, rfl⟩ rfl rfl rfl rfl rfl (by kernel_rfl) Try.func3 (by kernel_rfl)
    (of_decide_eq_true (by kernel_rfl)) (by unfold Func.isWrapper; first | (rw [if_pos (by decide +kernel)]; kernel_rfl) | (rw [if_neg (by decide +kernel)]; exact ⟨rfl, rfl⟩))
    (fun os started H enc _ => lifted os started H enc)

end Go.Proofs.Ythagafkjlecagaa.fnExactFormatEvent
namespace Go.Proofs.Ythagafkjlecagaa
/-- the statement -/
theorem fnExactFormatEvent_holds : Rows.FnExactFormatEventSaid := fnExactFormatEvent.over
end Go.Proofs.Ythagafkjlecagaa
