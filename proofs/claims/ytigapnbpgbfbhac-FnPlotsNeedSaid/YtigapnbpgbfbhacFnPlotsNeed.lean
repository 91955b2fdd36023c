/- For every input the law answers true, and its argument reads afterwards as before: plots add up. No condition. -/
import Derived.Test.YtigapnbpgbfbhacRows
import Derived.Test.YtigapnbpgbfbhacDrawPl
import Derived.Test.YtigapnbpgbfbhacPloT
import Derived.Test.YtigapnbpgbfbhacPloQ
import Derived.Test.YtigapnbpgbfbhacLawIn
import Derived.WalkKit
import Derived.Deep.RegionHeld3
import Derived.Deep.RegionWith
import Derived.Deep.QuietTactic
import Derived.BigQuiet
import Derived.RegionTactic
import Derived.ChangeAlike
import Derived.BigRegion
import Derived.ProofKit
import Derived.OpenShut
import Derived.ShutString
import Derived.ChangeOld
import Derived.Below
import Derived.Lib.SmallJoins
namespace Go.Proofs.Ytigapnbpgbfbhac.fnPlotsNeed
open Go.ChangeShapes Go.WideShapes Go.ChangeAt Go.RowKit Go.Joins
open Go.ChangeMaps (open_string shut_string)
set_option linter.unusedVariables false
set_option linter.unusedSimpArgs false

theorem own : ownKnob Try.prog.godebug = none := by kernel_rfl
theorem laidOut : laidOutB Try.prog = true := by kernel_rfl

set_option maxRecDepth 100000 in
set_option maxHeartbeats 8000000 in
theorem walk (a0 : Option Addr) (len0 cap0 : Nat) (z0 : List Int) (w : World) (w0 : IsRow .u8 w a0 len0 cap0 z0) :
    Calls Try.prog 10 #[.slice a0 len0 cap0] w fun e w' => e = .returned (.bool true) ∧ Below w.heap.size w w' := by
  by_cases big : (1048576 : Int) < (len0 : Int)
  · go_enter Try.func10, Try.ntmps10
    go_wp2
    go_ret
    exact ⟨rfl, Below.refl _ _⟩
  go_enter Try.func10, Try.ntmps10
  go_wp2_with fail
  refine (drawPN a0 len0 cap0 z0 _ w0).mono ?_
  rintro e u1 ⟨b1, cp, xs, b2, cb, ks, rfl, l6, hlc, IR, kl, hkc, IM, B⟩
  clear w0 big
  have n1 : xs.length ≤ 1048576 := by omega
  have n2 : ks.length ≤ 1048576 := by omega
  obtain ⟨V, hV⟩ : ∃ V, pnN xs ks = V := ⟨_, rfl⟩
  obtain ⟨Y, hY⟩ : ∃ V, pnY xs ks = V := ⟨_, rfl⟩
  have HI : Hid (∀  (W : World), (h1 : IsPl W b1 xs) → (h2 : IsInts W b2 ks) → Calls Try.prog 27 #[.slice b1 xs.length cp, .slice b2 ks.length cb] W (fun e w' => e = .returned (.tuple #[.int .i64 V, .int .i64 Y]) ∧ Below W.heap.size W w')) := fun  W h1 h2 => by have h := iPN b1 b2 cp cb xs ks W h1 h2 n1 n2 hkc; rw [hV, hY] at h; exact h
  have HS : Hid (∀  (W : World), (h1 : IsPl W b1 xs) → (h2 : IsInts W b2 ks) → Calls Try.prog 25 #[.slice b1 xs.length cp, .slice b2 ks.length cb] W (fun e w' => e = .returned (.tuple #[.int .i64 V, .int .i64 Y]) ∧ Below W.heap.size W w')) := fun  W h1 h2 => by have h := sPN b1 b2 cp cb xs ks W h1 h2 n1 n2 hkc; rw [hV, hY] at h; exact h
  by_cases hz : V < 0
  · have e0 : decide (V < 0) = true := decide_eq_true hz
    clear hV hY hz
    go_wp2_with fail
    refine (HI.out _ IR IM).mono ?_
    rintro e u2_ ⟨rfl, C_⟩
    replace B := bel_tr B C_
    replace IR := pl_below IR C_
    replace IM := ints_below IM C_
    clear C_
    go_wp2_with fail
    refine (HS.out _ IR IM).mono ?_
    rintro e u3_ ⟨rfl, C_⟩
    replace B := bel_tr B C_
    replace IR := pl_below IR C_
    replace IM := ints_below IM C_
    clear C_
    go_wp2_with fail
    go_ret
    exact ⟨rfl, B⟩
  have e0 : decide (V < 0) = false := decide_eq_false hz
  have hp : pnB xs ks = true := by
    cases h : pnB xs ks with
    | true => rfl
    | false => rw [(pn_no h).1] at hV; omega
  have hv := (pn_is hp).1
  obtain ⟨p1, p2, p3, p4⟩ := pn_half hp (ks.length / 2)
  rw [← (pn_val hp).1, hV] at p3
  rw [← (pn_val hp).2, hY] at p4
  have hnv := (pn_val hp).1
  have hyv := (pn_val hp).2
  rw [hV] at hnv
  rw [hY] at hyv
  have hlt1 : (ks.take (ks.length / 2)).length = ks.length / 2 := by rw [List.length_take]; omega
  have hlt2 : (ks.drop (ks.length / 2)).length = ks.length - ks.length / 2 := by rw [List.length_drop]
  have bd1 := ptsum_bd hv (ks.take (ks.length / 2)) (fun z hz => (pn_nodup (ps := xs) ks.length (Nat.le_refl _) (pn_is hp).2).2 z (by rw [List.take_length]; exact List.mem_of_mem_take hz))
  have bd2 := ptsum_bd hv (ks.drop (ks.length / 2)) (fun z hz => (pn_nodup (ps := xs) ks.length (Nat.le_refl _) (pn_is hp).2).2 z (by rw [List.take_length]; exact List.mem_of_mem_drop hz))
  obtain ⟨N1, hN1⟩ : ∃ y, needS xs (ks.take (ks.length / 2)) = y := ⟨_, rfl⟩
  obtain ⟨N2, hN2⟩ : ∃ y, needS xs (ks.drop (ks.length / 2)) = y := ⟨_, rfl⟩
  obtain ⟨Y1, hY1⟩ : ∃ y, yldS xs (ks.take (ks.length / 2)) = y := ⟨_, rfl⟩
  obtain ⟨Y2, hY2⟩ : ∃ y, yldS xs (ks.drop (ks.length / 2)) = y := ⟨_, rfl⟩
  rw [hN1, hN2] at p3
  rw [hY1, hY2] at p4
  rw [hN1, hY1, hlt1] at bd1
  rw [hN2, hY2, hlt2] at bd2
  have HTK : Hid (∀ W, IsInts W b2 ks → IsInts W b2 (ks.take (ks.length / 2))) := fun W h => ints_takeP h _
  have H1 : Hid (∀ (b : Option Addr) (W : World), (h1 : IsPl W b1 xs) → (h2 : IsInts W b (ks.take (ks.length / 2))) → Calls Try.prog 27 #[.slice b1 xs.length cp, .slice b (ks.length / 2) cb] W (fun e w' => e = .returned (.tuple #[.int .i64 N1, .int .i64 Y1]) ∧ Below W.heap.size W w')) := fun b W h1 h2 => by have h := iPN b1 b cp cb xs _ W h1 h2 n1 (by omega) (by omega); rw [(pn_val p1).1, (pn_val p1).2, hN1, hY1, hlt1] at h; exact h
  have H2 : Hid (∀ (b : Option Addr) (c : Nat) (W : World), (hcc : ks.length - ks.length / 2 ≤ c) → (h1 : IsPl W b1 xs) → (h2 : IsInts W b (ks.drop (ks.length / 2))) → Calls Try.prog 27 #[.slice b1 xs.length cp, .slice b (ks.length - ks.length / 2) c] W (fun e w' => e = .returned (.tuple #[.int .i64 N2, .int .i64 Y2]) ∧ Below W.heap.size W w')) := fun b c W hcc h1 h2 => by have h := iPN b1 b cp c xs _ W h1 h2 n1 (by omega) (by omega); rw [(pn_val p2).1, (pn_val p2).2, hN2, hY2, hlt2] at h; exact h
  have HN : Hid (∀  (W : World), (hq : V ≤ 500) → (h1 : IsPl W b1 xs) → Calls Try.prog 18 #[.slice b1 xs.length cp, .int .i64 V] W (fun e w' => ∃ y, Y ≤ y ∧ e = .returned (.int .i64 y) ∧ Below W.heap.size W w')) := fun  W hq h1 => by have h := iBY b1 cp xs V W h1 n1; exact h.mono (fun e w h => ⟨_, by obtain ⟨m, hm⟩ : ∃ m : Nat, V = (m : Int) := ⟨V.toNat, by omega⟩; rw [hm] at hq ⊢; rw [byV_yes (wp_yes hv (by omega) hq), hyv]; exact pn_best hp (by rw [← hnv, hm]; exact Int.le_refl _), h.1, h.2⟩)
  have ws1 : IntKind.i64.wrap (N1 + N2) = V := by rw [IntKind.wrap_i64]; omega
  have ws2 : IntKind.i64.wrap (Y1 + Y2) = Y := by rw [IntKind.wrap_i64]; omega
  have td : (ks.length : Int).tdiv 2 = ((ks.length / 2 : Nat) : Int) := by rw [Int.tdiv_eq_ediv_of_nonneg (by omega)]; rfl
  have h0 : (0 : Int) ≤ ((ks.length / 2 : Nat) : Int) := by omega
  have h1 : ((ks.length / 2 : Nat) : Int) ≤ (ks.length : Int) := by omega
  have h2 : ((ks.length / 2 : Nat) : Int) ≤ (cb : Int) := by omega
  have hdc : ks.length - ks.length / 2 ≤ cb - ks.length / 2 := by omega
  have HDR : Hid (∀ W (g o : Nat), IsInts W (some ⟨g, o, none⟩) ks → IsInts W (some ⟨g, o + ks.length / 2, none⟩) (ks.drop (ks.length / 2))) := fun W g o h => by
    rcases h with hn | ⟨g2, o2, he, hc⟩
    · rw [hn]; exact .inl rfl
    · injection he with he; injection he with e1 e2; subst e1 e2
      refine .inr ⟨g, o + ks.length / 2, rfl, fun i hi => ?_⟩
      rw [List.length_drop] at hi
      rw [show o + ks.length / 2 + i = o + (ks.length / 2 + i) from by omega, hc _ (by omega), List.getD_eq_getElem?_getD, List.getD_eq_getElem?_getD, List.getElem?_drop]
  obtain ⟨K, hK⟩ : ∃ K, ks.length / 2 = K := ⟨_, rfl⟩
  rw [hK] at HTK H1 H2 td h0 h1 h2 hdc HDR
  clear hV hY hz hp hv p1 p2 p3 p4 hnv hyv hlt1 hlt2 bd1 bd2 hN1 hN2 hY1 hY2
  go_wp2_with fail
  refine (HI.out _ IR IM).mono ?_
  rintro e u2_ ⟨rfl, C_⟩
  replace B := bel_tr B C_
  replace IR := pl_below IR C_
  replace IM := ints_below IM C_
  clear C_
  go_wp2_with fail
  refine (HS.out _ IR IM).mono ?_
  rintro e u3_ ⟨rfl, C_⟩
  replace B := bel_tr B C_
  replace IR := pl_below IR C_
  replace IM := ints_below IM C_
  clear C_
  go_wp2_with fail
  refine (H1.out b2 _ IR (HTK.out _ IM)).mono ?_
  rintro e u4_ ⟨rfl, C_⟩
  replace B := bel_tr B C_
  replace IR := pl_below IR C_
  replace IM := ints_below IM C_
  clear C_
  by_cases hl0 : ks.length = 0
  · have hnil : ks = [] := List.length_eq_zero_iff.1 hl0
    subst hnil
    obtain rfl : K = 0 := by rw [← hK]; rfl
    clear hK hl0 IM
    cases b2 with
    | none =>
      go_wp2_with fail
      refine (H2.out none cb _ (Nat.zero_le _) IR (.inl rfl)).mono ?_
      rintro e u5_ ⟨rfl, C_⟩
      replace B := bel_tr B C_
      replace IR := pl_below IR C_
      clear C_
      by_cases hq : V ≤ 500
      · have dq : decide (500 < V) = false := decide_eq_false (by omega)
        have CN := HN.out _ hq IR
        clear hq
        go_wp2_with fail
        refine CN.mono ?_
        rintro e u6_ ⟨y, hy, rfl, C_⟩
        have dy : decide (Y ≤ y) = true := decide_eq_true hy
        replace B := bel_tr B C_
        clear hy C_ CN
        go_wp2_with fail
        go_ret
        exact ⟨rfl, B⟩
      · have dq : decide (500 < V) = true := decide_eq_true (by omega)
        clear hq
        go_wp2_with fail
        go_ret
        exact ⟨rfl, B⟩
    | some ad =>
      obtain ⟨gm, om, sp⟩ := ad
      go_wp2_with fail
      refine (H2.out (some ⟨gm, om, sp⟩) cb _ (Nat.zero_le _) IR (.inl rfl)).mono ?_
      rintro e u5_ ⟨rfl, C_⟩
      replace B := bel_tr B C_
      replace IR := pl_below IR C_
      clear C_
      by_cases hq : V ≤ 500
      · have dq : decide (500 < V) = false := decide_eq_false (by omega)
        have CN := HN.out _ hq IR
        clear hq
        go_wp2_with fail
        refine CN.mono ?_
        rintro e u6_ ⟨y, hy, rfl, C_⟩
        have dy : decide (Y ≤ y) = true := decide_eq_true hy
        replace B := bel_tr B C_
        clear hy C_ CN
        go_wp2_with fail
        go_ret
        exact ⟨rfl, B⟩
      · have dq : decide (500 < V) = true := decide_eq_true (by omega)
        clear hq
        go_wp2_with fail
        go_ret
        exact ⟨rfl, B⟩
  rcases IM with hnil | ⟨gm, om, rfl, hm⟩
  · rw [hnil] at hl0; exact absurd rfl hl0
  have IM := Lib.hid (HDR.out u4_ gm om (.inr ⟨gm, om, rfl, hm⟩))
  have hcK : ¬ cb = K := by omega
  clear hm hl0
  go_wp2_with fail
  refine (H2.out (some ⟨gm, om + K, none⟩) (cb - K) _ hdc IR IM.out).mono ?_
  rintro e u5_ ⟨rfl, C_⟩
  replace B := bel_tr B C_
  replace IR := pl_below IR C_
  clear C_
  by_cases hq : V ≤ 500
  · have dq : decide (500 < V) = false := decide_eq_false (by omega)
    have CN := HN.out _ hq IR
    clear hq
    go_wp2_with fail
    refine CN.mono ?_
    rintro e u6_ ⟨y, hy, rfl, C_⟩
    have dy : decide (Y ≤ y) = true := decide_eq_true hy
    replace B := bel_tr B C_
    clear hy C_ CN
    go_wp2_with fail
    go_ret
    exact ⟨rfl, B⟩
  · have dq : decide (500 < V) = true := decide_eq_true (by omega)
    clear hq
    go_wp2_with fail
    go_ret
    exact ⟨rfl, B⟩

set_option maxRecDepth 100000 in
theorem lifted (os : Os) (started : os.Started) (H : Type) (enc : TypeId × Value → H) :
    ReturnsInHanded {} Try.checked os 10 .any (Rows.fnPlotsNeedSpec.pre6 enc Try.prog Try.f10 Rows.fnPlotsNeedRow.domain false) (Rows.fnPlotsNeedSpec.post enc Try.prog Try.f10 false true false false) := by
  refine returnsInHanded_of_change (C := Try.checked) own started (by kernel_rfl) Try.func10
    (ChangeSpec.witness6 (enc := enc) (C := Try.checked) false ⟨#[], #[.slice none 0 0], []⟩ 8 (by kernel_rfl) (by kernel_rfl) (by kernel_rfl) (by kernel_rfl)) ?_
  intro W base args ds gs before hval0 hW hcnd _
  have hval : ∀ (j : Nat) t v, Try.f10.params[j]? = some t → args[j]? = some v → Value.okWide Try.prog W .any base t v := hval0
  have hW' := hW
  obtain ⟨p, q, hA0, hV, rfl, hfz, hnd⟩ := hW
  have hA : DataW.TrodAll enc Try.prog W 0 (fun _ => true) true Try.f10.params.toList args.toList ds p := hA0
  rw [Try.params10] at hA hval
  obtain ⟨v0, vs0, e0, es0, p0, q0, hargs, rfl, rfl, h0, r0⟩ := trodAll_cons hA
  obtain ⟨rfl, rfl, rfl⟩ := trodAll_nil r0
  obtain rfl : args = #[v0] := by cases args; simp_all
  obtain ⟨rfl, rfl⟩ := trodVars_none hV
  have k0 := h0
  have lt0 : ∀ x ∈ p0, x.block < W.heap.size := by obtain ⟨m, hm⟩ := k0; exact DataW.trod_lt m _ _ _ hm
  obtain ⟨a0, len0, cap0, rfl⟩ := okWide_slice Try.underlying39 (hval 0 39 v0 rfl rfl)
  obtain ⟨z0, w0⟩ : ∃ zs, IsRow .u8 W a0 len0 cap0 zs := by
    obtain ⟨fuel, hf⟩ := h0
    rcases open_ints Try.underlying39 Try.underlying5 (by kernel_rfl) hf with ⟨hcs, _⟩ | ⟨x, l, c, zs, hcs, _, hl, hm, hz, _, hcell, hwz⟩
    · simp [Value.cells] at hcs
      obtain ⟨rfl, rfl, rfl⟩ := hcs
      exact ⟨[], .inl ⟨rfl, rfl, rfl, rfl⟩⟩
    · simp [Value.cells] at hcs
      obtain ⟨rfl, rfl, rfl⟩ := hcs
      exact ⟨zs, .inr ⟨_, rfl, hl, hm, by simpa using hz, hcell, hwz⟩⟩
  clear hA0 hval0
  refine (walk a0 len0 cap0 z0 W w0).mono fun e W' ⟨he, bel⟩ => ?_
  subst he
  exact ⟨_, rfl, _, _, _, [], _, [], hW', trodAll_mk1 (shut_bool Try.underlying4 _), (trodAll_cons_mk (Below.trod laidOut (by kernel_rfl) (of_decide_eq_true (by kernel_rfl)) k0 bel lt0) trodAll_mk0), rfl, bel.frame _, fun h => by cases h⟩

theorem over : Rows.fnPlotsNeedRow.holds Try.pinned (OpenSpec.ofChange Rows.fnPlotsNeedSpec) :=
  OpenClaim.holds_of_wide 10 Try.f10 rfl rfl rfl rfl rfl rfl rfl ⟨rfl, rfl, rfl, rfl, rfl⟩ rfl rfl rfl rfl rfl (by kernel_rfl) Try.func10 (by kernel_rfl)
    (of_decide_eq_true (by kernel_rfl)) (by unfold Func.isWrapper; first | (rw [if_pos (by decide +kernel)]; kernel_rfl) | (rw [if_neg (by decide +kernel)]; exact ⟨rfl, rfl⟩))
    (fun os started H enc _ => lifted os started H enc)

end Go.Proofs.Ytigapnbpgbfbhac.fnPlotsNeed
namespace Go.Proofs.Ytigapnbpgbfbhac
/-- the statement -/
theorem fnPlotsNeed_holds : Rows.FnPlotsNeedSaid := fnPlotsNeed.over
end Go.Proofs.Ytigapnbpgbfbhac
