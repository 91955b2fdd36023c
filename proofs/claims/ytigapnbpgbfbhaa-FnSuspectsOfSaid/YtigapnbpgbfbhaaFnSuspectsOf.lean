/- For every input the law answers true, and its argument reads afterwards as before: suspects are where water is missing. No condition. -/
import Derived.Test.YtigapnbpgbfbhaaRows
import Derived.Test.YtigapnbpgbfbhaaDrawTk
import Derived.Test.YtigapnbpgbfbhaaMeaJ
import Derived.Test.YtigapnbpgbfbhaaMeaQ
import Derived.Test.YtigapnbpgbfbhaaEqI
import Derived.Test.YtigapnbpgbfbhaaLawIn
import Derived.Test.YtigapnbpgbfbhaaLawSu
import Derived.WalkKit
import Derived.Deep.RegionHeld3
import Derived.Deep.RegionWith
import Derived.Deep.QuietTactic
import Derived.BigQuiet
import Derived.RegionTactic
import Derived.ChangeAlike
import Derived.BigRegion
import Derived.ProofKit
import Derived.OpenShut
import Derived.ShutString
import Derived.ChangeOld
import Derived.Below
import Derived.Lib.SmallJoins
namespace Go.Proofs.Ytigapnbpgbfbhaa.fnSuspectsOf
open Go.ChangeShapes Go.WideShapes Go.ChangeAt Go.RowKit Go.Joins
open Go.ChangeMaps (open_string shut_string)
set_option linter.unusedVariables false
set_option linter.unusedSimpArgs false

theorem own : ownKnob Try.prog.godebug = none := by kernel_rfl
theorem laidOut : laidOutB Try.prog = true := by kernel_rfl

set_option maxRecDepth 100000 in
set_option maxHeartbeats 8000000 in
theorem walk (a0 : Option Addr) (len0 cap0 : Nat) (z0 : List Int) (w : World) (w0 : IsRow .u8 w a0 len0 cap0 z0) :
    Calls Try.prog 10 #[.slice a0 len0 cap0] w fun e w' => e = .returned (.bool true) ∧ Below w.heap.size w w' := by
  by_cases big : (1048576 : Int) < (len0 : Int)
  · go_enter Try.func10, Try.ntmps10
    go_wp2
    go_ret
    exact ⟨rfl, Below.refl _ _⟩
  go_enter Try.func10, Try.ntmps10
  go_wp2_with fail
  refine (drawSus a0 len0 cap0 z0 _ w0).mono ?_
  rintro e u1 ⟨b1, c1, xs, b2, c2, ms, s, rfl, l1, l10, hlc, IN, ml, IM, sb, B⟩
  clear w0 big
  have n1 : xs.length ≤ 1048576 := by omega
  have m1 : ms.length ≤ 1048576 := by omega
  obtain ⟨V, hV⟩ : ∃ V, susV xs ms s = V := ⟨_, rfl⟩
  have hVl : V.length ≤ 1048576 := by rw [← hV]; unfold susV; split; exact Nat.le_trans (susTo_len _ _ _) n1; simp
  have HI : Hid (∀  (W : World), (h1 : IsNd W b1 xs) → (h2 : IsInts W b2 ms) → Calls Try.prog 27 #[.slice b1 xs.length c1, .slice b2 ms.length c2, .int .i64 s] W (OutI W V)) := fun  W h1 h2 => by rw [← hV]; exact iSus b1 b2 c1 c2 xs ms s W h1 h2 n1 m1 hlc
  have HS : Hid (∀  (W : World), (h1 : IsNd W b1 xs) → (h2 : IsInts W b2 ms) → Calls Try.prog 26 #[.slice b1 xs.length c1, .slice b2 ms.length c2, .int .i64 s] W (OutI W V)) := fun  W h1 h2 => by rw [← hV]; exact sSus b1 b2 c1 c2 xs ms s W h1 h2 n1 m1
  have HQ : Hid (∀ (b : Option Addr) (b' : Option Addr) (c : Nat) (c' : Nat) (W : World), (h1 : IsInts W b V) → (h2 : IsInts W b' V) → Calls Try.prog 31 #[.slice b V.length c, .slice b' V.length c'] W (fun e w' => e = .returned (.bool true) ∧ Below W.heap.size W w')) := fun b b' c c' W h1 h2 => eqInts b b' c c' V W h1 h2 hVl
  have HN : Hid (∀  (W : World), (h1 : IsNd W b1 xs) → Calls Try.prog 37 #[.slice b1 xs.length c1] W (fun e w' => e = .returned (.bool (vnB xs)) ∧ Below W.heap.size W w')) := fun  W h1 => iVN b1 c1 xs W h1 n1 hlc
  cases hv : vnB xs with
  | false =>
    rw [hv] at HN
    clear hv hV hVl
    go_wp2_with fail
    refine (HI.out _ IN IM).mono ?_
    rintro e u2_ ⟨vo, rfl, Oo, C_⟩
    obtain ⟨bo, co, rfl, Io⟩ := Oo.ints
    clear Oo
    replace B := bel_tr B C_
    replace IN := nd_below IN C_
    replace IM := ints_below IM C_
    clear C_
    go_wp2_with fail
    refine (HS.out _ IN IM).mono ?_
    rintro e u3_ ⟨vp, rfl, Op, C_⟩
    obtain ⟨bp, cp, rfl, Ip⟩ := Op.ints
    clear Op
    replace B := bel_tr B C_
    replace IN := nd_below IN C_
    replace IM := ints_below IM C_
    replace Io := ints_below Io C_
    clear C_
    go_wp2_with fail
    refine (HQ.out _ _ _ _ _ Io Ip).mono ?_
    rintro e u4_ ⟨rfl, C_⟩
    replace B := bel_tr B C_
    replace IN := nd_below IN C_
    replace IM := ints_below IM C_
    replace Io := ints_below Io C_
    replace Ip := ints_below Ip C_
    clear C_
    go_wp2_with fail
    clear Ip
    refine (HN.out _ IN).mono ?_
    rintro e u5_ ⟨rfl, C_⟩
    replace B := bel_tr B C_
    replace IN := nd_below IN C_
    replace IM := ints_below IM C_
    replace Io := ints_below Io C_
    clear C_
    go_wp2_with fail
    refine (HS.out _ IN IM).mono ?_
    rintro e u6_ ⟨vq, rfl, Oq, C_⟩
    obtain ⟨bq, cq, rfl, Iq⟩ := Oq.ints
    clear Oq
    replace B := bel_tr B C_
    replace IN := nd_below IN C_
    replace IM := ints_below IM C_
    replace Io := ints_below Io C_
    clear C_
    go_wp2_with fail
    refine (HQ.out _ _ _ _ _ Io Iq).mono ?_
    rintro e u7_ ⟨rfl, C_⟩
    replace B := bel_tr B C_
    replace IN := nd_below IN C_
    replace IM := ints_below IM C_
    replace Io := ints_below Io C_
    replace Iq := ints_below Iq C_
    clear C_
    go_wp2_with fail
    go_ret
    exact ⟨rfl, B⟩
  | true =>
  rw [hv] at HN
  by_cases hs : 0 ≤ s ∧ s < 500
  rotate_left
  · by_cases s0 : s < 0
    · have e0 : decide (s < 0) = true := decide_eq_true s0
      clear hv hV hVl
      go_wp2_with fail
      refine (HI.out _ IN IM).mono ?_
      rintro e u2_ ⟨vo, rfl, Oo, C_⟩
      obtain ⟨bo, co, rfl, Io⟩ := Oo.ints
      clear Oo
      replace B := bel_tr B C_
      replace IN := nd_below IN C_
      replace IM := ints_below IM C_
      clear C_
      go_wp2_with fail
      refine (HS.out _ IN IM).mono ?_
      rintro e u3_ ⟨vp, rfl, Op, C_⟩
      obtain ⟨bp, cp, rfl, Ip⟩ := Op.ints
      clear Op
      replace B := bel_tr B C_
      replace IN := nd_below IN C_
      replace IM := ints_below IM C_
      replace Io := ints_below Io C_
      clear C_
      go_wp2_with fail
      refine (HQ.out _ _ _ _ _ Io Ip).mono ?_
      rintro e u4_ ⟨rfl, C_⟩
      replace B := bel_tr B C_
      replace IN := nd_below IN C_
      replace IM := ints_below IM C_
      replace Io := ints_below Io C_
      replace Ip := ints_below Ip C_
      clear C_
      go_wp2_with fail
      clear Ip
      refine (HN.out _ IN).mono ?_
      rintro e u5_ ⟨rfl, C_⟩
      replace B := bel_tr B C_
      replace IN := nd_below IN C_
      replace IM := ints_below IM C_
      replace Io := ints_below Io C_
      clear C_
      go_wp2_with fail
      refine (HS.out _ IN IM).mono ?_
      rintro e u6_ ⟨vq, rfl, Oq, C_⟩
      obtain ⟨bq, cq, rfl, Iq⟩ := Oq.ints
      clear Oq
      replace B := bel_tr B C_
      replace IN := nd_below IN C_
      replace IM := ints_below IM C_
      replace Io := ints_below Io C_
      clear C_
      go_wp2_with fail
      refine (HQ.out _ _ _ _ _ Io Iq).mono ?_
      rintro e u7_ ⟨rfl, C_⟩
      replace B := bel_tr B C_
      replace IN := nd_below IN C_
      replace IM := ints_below IM C_
      replace Io := ints_below Io C_
      replace Iq := ints_below Iq C_
      clear C_
      go_wp2_with fail
      go_ret
      exact ⟨rfl, B⟩
    · have e0 : decide (s < 0) = false := decide_eq_false s0
      have s1 : 500 ≤ s := by omega
      have e1 : decide (500 ≤ s) = true := decide_eq_true s1
      clear hv hV hVl
      go_wp2_with fail
      refine (HI.out _ IN IM).mono ?_
      rintro e u2_ ⟨vo, rfl, Oo, C_⟩
      obtain ⟨bo, co, rfl, Io⟩ := Oo.ints
      clear Oo
      replace B := bel_tr B C_
      replace IN := nd_below IN C_
      replace IM := ints_below IM C_
      clear C_
      go_wp2_with fail
      refine (HS.out _ IN IM).mono ?_
      rintro e u3_ ⟨vp, rfl, Op, C_⟩
      obtain ⟨bp, cp, rfl, Ip⟩ := Op.ints
      clear Op
      replace B := bel_tr B C_
      replace IN := nd_below IN C_
      replace IM := ints_below IM C_
      replace Io := ints_below Io C_
      clear C_
      go_wp2_with fail
      refine (HQ.out _ _ _ _ _ Io Ip).mono ?_
      rintro e u4_ ⟨rfl, C_⟩
      replace B := bel_tr B C_
      replace IN := nd_below IN C_
      replace IM := ints_below IM C_
      replace Io := ints_below Io C_
      replace Ip := ints_below Ip C_
      clear C_
      go_wp2_with fail
      clear Ip
      refine (HN.out _ IN).mono ?_
      rintro e u5_ ⟨rfl, C_⟩
      replace B := bel_tr B C_
      replace IN := nd_below IN C_
      replace IM := ints_below IM C_
      replace Io := ints_below Io C_
      clear C_
      go_wp2_with fail
      refine (HS.out _ IN IM).mono ?_
      rintro e u6_ ⟨vq, rfl, Oq, C_⟩
      obtain ⟨bq, cq, rfl, Iq⟩ := Oq.ints
      clear Oq
      replace B := bel_tr B C_
      replace IN := nd_below IN C_
      replace IM := ints_below IM C_
      replace Io := ints_below Io C_
      clear C_
      go_wp2_with fail
      refine (HQ.out _ _ _ _ _ Io Iq).mono ?_
      rintro e u7_ ⟨rfl, C_⟩
      replace B := bel_tr B C_
      replace IN := nd_below IN C_
      replace IM := ints_below IM C_
      replace Io := ints_below Io C_
      replace Iq := ints_below Iq C_
      clear C_
      go_wp2_with fail
      go_ret
      exact ⟨rfl, B⟩
  have s0 : ¬ s < 0 := by omega
  have s1 : ¬ 500 ≤ s := by omega
  have e0 : decide (s < 0) = false := decide_eq_false s0
  have e1 : decide (500 ≤ s) = false := decide_eq_false s1
  have ws : IntKind.i64.wrap (s + 1) = s + 1 := by rw [IntKind.wrap_i64]; omega
  obtain ⟨Q, hQ⟩ : ∃ Q, misV xs ms = Q := ⟨_, rfl⟩
  have hQl : Q.length ≤ 1048576 := by rw [← hQ]; unfold misV; split; rw [misF_len]; exact n1; simp
  have hVQ : V = susTo Q s Q.length := by rw [← hV, susV_is hs.1 (by omega), hQ]
  obtain ⟨U, hU⟩ : ∃ U, susV xs ms (s + 1) = U := ⟨_, rfl⟩
  have hUQ : U = susTo Q (s + 1) Q.length := by rw [← hU, susV_is (by omega) (by omega), hQ]
  have hUl : U.length ≤ 1048576 := by rw [hUQ]; exact Nat.le_trans (susTo_len _ _ _) hQl
  have HIN : Hid (∀ i : Nat, i < Q.length → decide ((i : Int) ∈ V) = decide (s < Q.getD i 0)) := fun i hi => by
    rw [hVQ]; exact decide_eq_decide.2 (susTo_in hi)
  have HM : Hid (∀  (W : World), (h1 : IsNd W b1 xs) → (h2 : IsInts W b2 ms) → Calls Try.prog 25 #[.slice b1 xs.length c1, .slice b2 ms.length c2] W (OutI W Q)) := fun  W h1 h2 => by rw [← hQ]; exact iMis b1 b2 c1 c2 xs ms W h1 h2 n1 m1 hlc
  have HU : Hid (∀  (W : World), (h1 : IsNd W b1 xs) → (h2 : IsInts W b2 ms) → Calls Try.prog 27 #[.slice b1 xs.length c1, .slice b2 ms.length c2, .int .i64 (s + 1)] W (OutI W U)) := fun  W h1 h2 => by rw [← hU]; exact iSus b1 b2 c1 c2 xs ms (s + 1) W h1 h2 n1 m1 hlc
  have HW : Hid (∀ (b : Option Addr) (b' : Option Addr) (c : Nat) (c' : Nat) (W : World), (h1 : IsInts W b U) → (h2 : IsInts W b' V) → Calls Try.prog 39 #[.slice b U.length c, .slice b' V.length c'] W (fun e w' => e = .returned (.bool true) ∧ W = w')) := fun b b' c c' W h1 h2 => lwithin b b' c c' U V W h1 h2 hUl hVl (by rw [hVQ, hUQ]; exact susTo_less _)
  have HA : Hid (∀ (b : Option Addr) (c : Nat) (W : World), (h1 : IsInts W b V) → Calls Try.prog 40 #[.slice b V.length c] W (fun e w' => e = .returned (.bool true) ∧ Below W.heap.size W w')) := fun b c W h1 => lasc b c V W h1 hVl (by rw [hVQ]; exact susTo_asc Q s Q.length)
  have HL : Hid (∀ (b : Option Addr) (c : Nat) (i : Int) (W : World), (h1 : IsInts W b V) → Calls Try.prog 38 #[.slice b V.length c, .int .i64 i] W (fun e w' => e = .returned (.bool (decide (i ∈ V))) ∧ W = w')) := fun b c i W h1 => lisIn b c V i W h1 hVl
  clear hv hV hQ hU hVQ hUQ hVl hUl
  go_wp2_with fail
  refine (HI.out _ IN IM).mono ?_
  rintro e u2_ ⟨vo, rfl, Oo, C_⟩
  obtain ⟨bo, co, rfl, Io⟩ := Oo.ints
  clear Oo
  replace B := bel_tr B C_
  replace IN := nd_below IN C_
  replace IM := ints_below IM C_
  clear C_
  go_wp2_with fail
  refine (HS.out _ IN IM).mono ?_
  rintro e u3_ ⟨vp, rfl, Op, C_⟩
  obtain ⟨bp, cp, rfl, Ip⟩ := Op.ints
  clear Op
  replace B := bel_tr B C_
  replace IN := nd_below IN C_
  replace IM := ints_below IM C_
  replace Io := ints_below Io C_
  clear C_
  go_wp2_with fail
  refine (HQ.out _ _ _ _ _ Io Ip).mono ?_
  rintro e u4_ ⟨rfl, C_⟩
  replace B := bel_tr B C_
  replace IN := nd_below IN C_
  replace IM := ints_below IM C_
  replace Io := ints_below Io C_
  replace Ip := ints_below Ip C_
  clear C_
  go_wp2_with fail
  clear Ip
  refine (HN.out _ IN).mono ?_
  rintro e u5_ ⟨rfl, C_⟩
  replace B := bel_tr B C_
  replace IN := nd_below IN C_
  replace IM := ints_below IM C_
  replace Io := ints_below Io C_
  clear C_
  go_wp2_with fail
  refine (HM.out _ IN IM).mono ?_
  rintro e u6_ ⟨v5, rfl, O5, C_⟩
  obtain ⟨b5, c5, rfl, I5⟩ := O5.ints
  clear O5
  replace B := bel_tr B C_
  replace IN := nd_below IN C_
  replace IM := ints_below IM C_
  replace Io := ints_below Io C_
  clear C_
  go_wp2_with fail
  clear HI HS HM HQ HN
  have HIM := Lib.hid IM
  have HI5 := Lib.hid I5
  have HIo := Lib.hid Io
  have HIN2 := Lib.hid IN
  have HB := Lib.hid B
  clear B IN IM Io I5
  go_loopw [8] (fun i wr => ∃ k : Nat, k ≤ Q.length ∧ i = .int .i64 k ∧ Below u6_.heap.size u6_ wr) (fun i _ => Q.length - (intOf i).toNat)
  case atStart => exact ⟨0, Nat.zero_le _, rfl, Below.refl _ _⟩
  case round =>
    obtain ⟨i, hi, rfl, hB⟩ := hrel
    by_cases hlt : i < Q.length
    · have i0 : (0 : Int) ≤ (i : Int) := by omega
      have i1 : (i : Int) < (Q.length : Int) := by omega
      have ao := ints_below HIo.out hB
      have a5 := ints_below HI5.out hB
      rcases a5 with hnil | ⟨g5, o5, rfl, h5⟩
      · rw [hnil] at hlt; exact absurd hlt (Nat.not_lt_zero _)
      have x5 := h5 i hlt
      have hin := HIN.out i hlt
      have KL := Lib.hid (fun (W : World) (m : Nat) (h : IsInts (W.drewN m) bo V) => Calls.quiet_of_same (w := W) (n := m) ((HL.out bo co (i : Int) (W.drewN m) h).mono (fun _ _ h => ⟨h.1, h.2.symm⟩)))
      have HAO := Lib.hid ao
      generalize Q.getD i 0 = q at x5 hin
      clear h5 ao
      rw [hin] at KL
      by_cases p : s < q
      · have e2 : decide (s < q) = true := decide_eq_true p
        rw [e2] at KL
        clear hin
        go_wp2_with fail
        go_quiet (first | (go_at_call_of 38 (Value.slice bo V.length co); exact KL.out _ _ HAO.out))
        go_wp2
        go_roundw
        case rel => exact ⟨i + 1, by omega, by go_num, below_drewN hB _⟩
        case measure => simp [intOf]; omega
      · have e2 : decide (s < q) = false := decide_eq_false p
        rw [e2] at KL
        clear hin
        go_wp2_with fail
        go_quiet (first | (go_at_call_of 38 (Value.slice bo V.length co); exact KL.out _ _ HAO.out))
        go_wp2
        go_roundw
        case rel => exact ⟨i + 1, by omega, by go_num, below_drewN hB _⟩
        case measure => simp [intOf]; omega
    · obtain rfl : i = Q.length := by omega
      have B := bel_tr HB.out hB
      have IN := nd_below HIN2.out hB
      have IM := ints_below HIM.out hB
      have Io := ints_below HIo.out hB
      clear hB
      go_wp2_with fail
      refine (HU.out _ IN IM).mono ?_
      rintro e u21_ ⟨v7, rfl, O7, C_⟩
      obtain ⟨b7, c7, rfl, I7⟩ := O7.ints
      clear O7
      replace B := bel_tr B C_
      replace IN := nd_below IN C_
      replace IM := ints_below IM C_
      replace Io := ints_below Io C_
      clear C_
      go_wp2_with fail
      refine (HW.out _ _ _ _ _ I7 Io).mono ?_
      rintro e w' ⟨rfl, rfl⟩
      go_wp2_with fail
      refine (HA.out _ _ _ Io).mono ?_
      rintro e u22_ ⟨rfl, C_⟩
      replace B := bel_tr B C_
      replace IN := nd_below IN C_
      replace IM := ints_below IM C_
      replace Io := ints_below Io C_
      replace I7 := ints_below I7 C_
      clear C_
      go_wp2_with fail
      go_ret
      exact ⟨rfl, B⟩

set_option maxRecDepth 100000 in
theorem lifted (os : Os) (started : os.Started) (H : Type) (enc : TypeId × Value → H) :
    ReturnsInHanded {} Try.checked os 10 .any (Rows.fnSuspectsOfSpec.pre6 enc Try.prog Try.f10 Rows.fnSuspectsOfRow.domain false) (Rows.fnSuspectsOfSpec.post enc Try.prog Try.f10 false true false false) := by
  refine returnsInHanded_of_change (C := Try.checked) own started (by kernel_rfl) Try.func10
    (ChangeSpec.witness6 (enc := enc) (C := Try.checked) false ⟨#[], #[.slice none 0 0], []⟩ 8 (by kernel_rfl) (by kernel_rfl) (by kernel_rfl) (by kernel_rfl)) ?_
  intro W base args ds gs before hval0 hW hcnd _
  have hval : ∀ (j : Nat) t v, Try.f10.params[j]? = some t → args[j]? = some v → Value.okWide Try.prog W .any base t v := hval0
  have hW' := hW
  obtain ⟨p, q, hA0, hV, rfl, hfz, hnd⟩ := hW
  have hA : DataW.TrodAll enc Try.prog W 0 (fun _ => true) true Try.f10.params.toList args.toList ds p := hA0
  rw [Try.params10] at hA hval
  obtain ⟨v0, vs0, e0, es0, p0, q0, hargs, rfl, rfl, h0, r0⟩ := trodAll_cons hA
  obtain ⟨rfl, rfl, rfl⟩ := trodAll_nil r0
  obtain rfl : args = #[v0] := by cases args; simp_all
  obtain ⟨rfl, rfl⟩ := trodVars_none hV
  have k0 := h0
  have lt0 : ∀ x ∈ p0, x.block < W.heap.size := by obtain ⟨m, hm⟩ := k0; exact DataW.trod_lt m _ _ _ hm
  obtain ⟨a0, len0, cap0, rfl⟩ := okWide_slice Try.underlying38 (hval 0 38 v0 rfl rfl)
  obtain ⟨z0, w0⟩ : ∃ zs, IsRow .u8 W a0 len0 cap0 zs := by
    obtain ⟨fuel, hf⟩ := h0
    rcases open_ints Try.underlying38 Try.underlying5 (by kernel_rfl) hf with ⟨hcs, _⟩ | ⟨x, l, c, zs, hcs, _, hl, hm, hz, _, hcell, hwz⟩
    · simp [Value.cells] at hcs
      obtain ⟨rfl, rfl, rfl⟩ := hcs
      exact ⟨[], .inl ⟨rfl, rfl, rfl, rfl⟩⟩
    · simp [Value.cells] at hcs
      obtain ⟨rfl, rfl, rfl⟩ := hcs
      exact ⟨zs, .inr ⟨_, rfl, hl, hm, by simpa using hz, hcell, hwz⟩⟩
  clear hA0 hval0
  refine (walk a0 len0 cap0 z0 W w0).mono fun e W' ⟨he, bel⟩ => ?_
  subst he
  exact ⟨_, rfl, _, _, _, [], _, [], hW', trodAll_mk1 (shut_bool Try.underlying4 _), (trodAll_cons_mk (Below.trod laidOut (by kernel_rfl) (of_decide_eq_true (by kernel_rfl)) k0 bel lt0) trodAll_mk0), rfl, bel.frame _, fun h => by cases h⟩

theorem over : Rows.fnSuspectsOfRow.holds Try.pinned (OpenSpec.ofChange Rows.fnSuspectsOfSpec) :=
  OpenClaim.holds_of_wide 10 Try.f10 rfl rfl rfl rfl rfl rfl rfl ⟨rfl, rfl, rfl, rfl, rfl⟩ rfl rfl rfl rfl rfl (by kernel_rfl) Try.func10 (by kernel_rfl)
    (of_decide_eq_true (by kernel_rfl)) (by unfold Func.isWrapper; first | (rw [if_pos (by decide +kernel)]; kernel_rfl) | (rw [if_neg (by decide +kernel)]; exact ⟨rfl, rfl⟩))
    (fun os started H enc _ => lifted os started H enc)

end Go.Proofs.Ytigapnbpgbfbhaa.fnSuspectsOf
namespace Go.Proofs.Ytigapnbpgbfbhaa
/-- the statement -/
theorem fnSuspectsOf_holds : Rows.FnSuspectsOfSaid := fnSuspectsOf.over
end Go.Proofs.Ytigapnbpgbfbhaa
