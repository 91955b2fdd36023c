/- For every input the law answers true, and its argument reads afterwards as before: what is taken is missing. No condition. -/
import Derived.Test.YtigapnbpgbfbhaaRows
import Derived.Test.YtigapnbpgbfbhaaDrawTk
import Derived.Test.YtigapnbpgbfbhaaMeaJ
import Derived.Test.YtigapnbpgbfbhaaMeaQ
import Derived.Test.YtigapnbpgbfbhaaEqI
import Derived.Test.YtigapnbpgbfbhaaLawIn
import Derived.WalkKit
import Derived.Deep.RegionHeld3
import Derived.Deep.RegionWith
import Derived.Deep.QuietTactic
import Derived.BigQuiet
import Derived.RegionTactic
import Derived.ChangeAlike
import Derived.BigRegion
import Derived.ProofKit
import Derived.OpenShut
import Derived.ShutString
import Derived.ChangeOld
import Derived.Below
import Derived.Lib.SmallJoins
namespace Go.Proofs.Ytigapnbpgbfbhaa.fnMissingAt
open Go.ChangeShapes Go.WideShapes Go.ChangeAt Go.RowKit Go.Joins
open Go.ChangeMaps (open_string shut_string)
set_option linter.unusedVariables false
set_option linter.unusedSimpArgs false

theorem own : ownKnob Try.prog.godebug = none := by kernel_rfl
theorem laidOut : laidOutB Try.prog = true := by kernel_rfl

set_option maxRecDepth 100000 in
set_option maxHeartbeats 8000000 in
theorem walk (a0 : Option Addr) (len0 cap0 : Nat) (z0 : List Int) (w : World) (w0 : IsRow .u8 w a0 len0 cap0 z0) :
    Calls Try.prog 8 #[.slice a0 len0 cap0] w fun e w' => e = .returned (.bool true) ∧ Below w.heap.size w w' := by
  by_cases big : (1048576 : Int) < (len0 : Int)
  · go_enter Try.func8, Try.ntmps8
    go_wp2
    go_ret
    exact ⟨rfl, Below.refl _ _⟩
  go_enter Try.func8, Try.ntmps8
  go_wp2_with fail
  refine (drawMea a0 len0 cap0 z0 _ w0).mono ?_
  rintro e u1 ⟨b1, c1, xs, n, b2, c2, ms, rfl, l1, l10, hlc, IN, f0, f1, tl, tz, IM, B⟩
  clear w0 big
  have n1 : xs.length ≤ 1048576 := by omega
  have m1 : ms.length ≤ 1048576 := by omega
  have HTL := Lib.hid tl
  have HTZ := Lib.hid tz
  clear tl tz
  obtain ⟨V, hV⟩ : ∃ V, meaV xs n ms = V := ⟨_, rfl⟩
  have HI : Hid (∀  (W : World), (h1 : IsNd W b1 xs) → (h2 : IsInts W b2 ms) → Calls Try.prog 29 #[.slice b1 xs.length c1, .int .i64 n, .slice b2 ms.length c2] W (OutI W V)) := fun  W h1 h2 => by rw [← hV]; exact iMea b1 b2 c1 c2 xs n ms W h1 h2 n1 m1 hlc
  have HS : Hid (∀  (W : World), (h1 : IsNd W b1 xs) → (h2 : IsInts W b2 ms) → Calls Try.prog 28 #[.slice b1 xs.length c1, .int .i64 n, .slice b2 ms.length c2] W (OutI W V)) := fun  W h1 h2 => by rw [← hV]; exact sMea b1 b2 c1 c2 xs n ms W h1 h2 n1 m1
  cases hvm : vkB xs n ms with
  | false =>
    have e0 : ((V.length : Int) == 0) = true := by rw [← hV, meaV_no hvm]; rfl
    have e1 : (V.length == 0) = true := by rw [← hV, meaV_no hvm]; rfl
    have hVl : V.length ≤ 1048576 := by rw [← hV, meaV_no hvm]; simp
    have HQ : Hid (∀ (b : Option Addr) (b' : Option Addr) (c : Nat) (c' : Nat) (W : World), (h1 : IsInts W b V) → (h2 : IsInts W b' V) → Calls Try.prog 31 #[.slice b V.length c, .slice b' V.length c'] W (fun e w' => e = .returned (.bool true) ∧ Below W.heap.size W w')) := fun b b' c c' W h1 h2 => eqInts b b' c c' V W h1 h2 hVl
    clear hV hvm hVl
    go_wp2_with fail
    refine (HI.out _ IN IM).mono ?_
    rintro e u2_ ⟨vo, rfl, Oo, C_⟩
    obtain ⟨bo, co, rfl, Io⟩ := Oo.ints
    clear Oo
    replace B := bel_tr B C_
    replace IN := nd_below IN C_
    replace IM := ints_below IM C_
    clear C_
    go_wp2_with fail
    refine (HS.out _ IN IM).mono ?_
    rintro e u3_ ⟨vp, rfl, Op, C_⟩
    obtain ⟨bp, cp, rfl, Ip⟩ := Op.ints
    clear Op
    replace B := bel_tr B C_
    replace IN := nd_below IN C_
    replace IM := ints_below IM C_
    replace Io := ints_below Io C_
    clear C_
    go_wp2_with fail
    refine (HQ.out _ _ _ _ _ Io Ip).mono ?_
    rintro e u4_ ⟨rfl, C_⟩
    replace B := bel_tr B C_
    replace IN := nd_below IN C_
    replace IM := ints_below IM C_
    replace Io := ints_below Io C_
    replace Ip := ints_below Ip C_
    clear C_
    go_wp2_with fail
    clear Ip
    refine (HS.out _ IN IM).mono ?_
    rintro e u5_ ⟨vq, rfl, Oq, C_⟩
    obtain ⟨bq, cq, rfl, Iq⟩ := Oq.ints
    clear Oq
    replace B := bel_tr B C_
    replace IN := nd_below IN C_
    replace IM := ints_below IM C_
    replace Io := ints_below Io C_
    clear C_
    go_wp2_with fail
    refine (HQ.out _ _ _ _ _ Io Iq).mono ?_
    rintro e u6_ ⟨rfl, C_⟩
    replace B := bel_tr B C_
    replace IN := nd_below IN C_
    replace IM := ints_below IM C_
    replace Io := ints_below Io C_
    replace Iq := ints_below Iq C_
    clear C_
    go_wp2_with fail
    go_ret
    exact ⟨rfl, B⟩
  | true =>
  rw [meaV_yes hvm] at hV
  have hVl : V.length = xs.length := by rw [← hV, meaF_len]
  have e0 : ((V.length : Int) == 0) = false := beq_eq_false_iff_ne.2 (by omega)
  have e1 : (V.length == 0) = false := beq_eq_false_iff_ne.2 (by omega)
  have HQ : Hid (∀ (b : Option Addr) (b' : Option Addr) (c : Nat) (c' : Nat) (W : World), (h1 : IsInts W b V) → (h2 : IsInts W b' V) → Calls Try.prog 31 #[.slice b V.length c, .slice b' V.length c'] W (fun e w' => e = .returned (.bool true) ∧ Below W.heap.size W w')) := fun b b' c c' W h1 h2 => eqInts b b' c c' V W h1 h2 (by omega)
  have HMI : Hid (∀ j, j < xs.length → (misF xs V).getD j 0 = if j = 0 then 0 else min (ms.getD j 0) ((expF xs V).getD j 0)) := fun j hj => by
    have := mis_taken hvm hj
    rw [hV] at this; exact this
  have hVM : vmB xs V = true := by rw [← hV]; exact mea_all hvm
  obtain ⟨Q, hQ⟩ : ∃ Q, misF xs V = Q := ⟨_, rfl⟩
  obtain ⟨X, hX⟩ : ∃ X, expF xs V = X := ⟨_, rfl⟩
  have hQl : Q.length = xs.length := by rw [← hQ, misF_len]
  have hXl : X.length = xs.length := by rw [← hX, expF_len]
  rw [hQ, hX] at HMI
  have HM : Hid (∀ (b : Option Addr) (c : Nat) (W : World), (h1 : IsNd W b1 xs) → (h2 : IsInts W b V) → Calls Try.prog 25 #[.slice b1 xs.length c1, .slice b V.length c] W (OutI W Q)) := fun b c W h1 h2 => by have h := iMis b1 b c1 c xs V W h1 h2 n1 (by omega) hlc; rw [misV_yes hVM, hQ] at h; exact h
  have HE : Hid (∀ (b : Option Addr) (c : Nat) (W : World), (h1 : IsNd W b1 xs) → (h2 : IsInts W b V) → Calls Try.prog 18 #[.slice b1 xs.length c1, .slice b V.length c] W (OutI W X)) := fun b c W h1 h2 => by have h := iExp b1 b c1 c xs V W h1 h2 n1 (by omega) hlc; rw [expV_yes hVM, hX] at h; exact h
  have HQL := Lib.hid hQl
  have HXL := Lib.hid hXl
  have q0 : ((Q.length : Int) == (xs.length : Int)) = true := by rw [hQl]; exact beq_self_eq_true _
  have q1 : (Q.length == xs.length) = true := by rw [hQl]; exact beq_self_eq_true _
  have q2 : 0 < Q.length := by omega
  have q3 : (0 : Int) < (Q.length : Int) := by omega
  clear hV hvm hVM hQ hX hQl hXl hVl
  go_wp2_with fail
  refine (HI.out _ IN IM).mono ?_
  rintro e u2_ ⟨vo, rfl, Oo, C_⟩
  obtain ⟨bo, co, rfl, Io⟩ := Oo.ints
  clear Oo
  replace B := bel_tr B C_
  replace IN := nd_below IN C_
  replace IM := ints_below IM C_
  clear C_
  go_wp2_with fail
  refine (HS.out _ IN IM).mono ?_
  rintro e u3_ ⟨vp, rfl, Op, C_⟩
  obtain ⟨bp, cp, rfl, Ip⟩ := Op.ints
  clear Op
  replace B := bel_tr B C_
  replace IN := nd_below IN C_
  replace IM := ints_below IM C_
  replace Io := ints_below Io C_
  clear C_
  go_wp2_with fail
  refine (HQ.out _ _ _ _ _ Io Ip).mono ?_
  rintro e u4_ ⟨rfl, C_⟩
  replace B := bel_tr B C_
  replace IN := nd_below IN C_
  replace IM := ints_below IM C_
  replace Io := ints_below Io C_
  replace Ip := ints_below Ip C_
  clear C_
  go_wp2_with fail
  clear Ip
  clear HI HS
  refine (HM.out _ _ _ IN Io).mono ?_
  rintro e u5_ ⟨v5, rfl, O5, C_⟩
  obtain ⟨b5, c5, rfl, I5⟩ := O5.ints
  clear O5
  replace B := bel_tr B C_
  replace IN := nd_below IN C_
  replace IM := ints_below IM C_
  replace Io := ints_below Io C_
  clear C_
  go_wp2_with fail
  refine (HE.out _ _ _ IN Io).mono ?_
  rintro e u6_ ⟨v6, rfl, O6, C_⟩
  obtain ⟨b6, c6, rfl, I6⟩ := O6.ints
  clear O6
  replace B := bel_tr B C_
  replace IN := nd_below IN C_
  replace IM := ints_below IM C_
  replace Io := ints_below Io C_
  replace I5 := ints_below I5 C_
  clear C_
  go_wp2_with fail
  have HIM := Lib.hid IM
  have HI5 := Lib.hid I5
  have HI6 := Lib.hid I6
  have HB0 := Lib.hid B
  clear B IN IM Io I5 I6 HM HE HQ
  go_loopw [9] (fun i wr => ∃ k : Nat, 1 ≤ k ∧ k ≤ Q.length ∧ i = .int .i64 k ∧ Below u6_.heap.size u6_ wr) (fun i _ => Q.length - (intOf i).toNat)
  case atStart => exact ⟨1, Nat.le_refl _, q2, rfl, Below.refl _ _⟩
  case round =>
    obtain ⟨i, hi1, hi, rfl, hB⟩ := hrel
    by_cases hlt : i < Q.length
    · have hix : i < X.length := by have := HQL.out; have := HXL.out; omega
      have him : i < ms.length := by have := HQL.out; have := HTL.out; omega
      have i0 : (0 : Int) ≤ (i : Int) := by omega
      have i1 : (i : Int) < (Q.length : Int) := by omega
      have i2 : (i : Int) < (X.length : Int) := by omega
      have i3 : (i : Int) < (ms.length : Int) := by omega
      have hmi := HMI.out i (by have := HQL.out; omega)
      rw [if_neg (by omega)] at hmi
      have a5 := ints_below HI5.out hB
      have a6 := ints_below HI6.out hB
      have am := ints_below HIM.out hB
      rcases a5 with hnil | ⟨g5, o5, rfl, h5⟩
      · rw [hnil] at hlt; exact absurd hlt (Nat.not_lt_zero _)
      rcases a6 with hnil | ⟨g6, o6, rfl, h6⟩
      · rw [hnil] at hix; exact absurd hix (Nat.not_lt_zero _)
      rcases am with hnil | ⟨gm, om, rfl, hm⟩
      · rw [hnil] at him; exact absurd him (Nat.not_lt_zero _)
      have x5 := h5 i hlt
      have x6 := h6 i hix
      have xm := hm i him
      rw [hmi] at x5
      clear h5 h6 hm hmi hix him
      generalize ms.getD i 0 = t at *
      generalize X.getD i 0 = e at *
      by_cases p : t ≤ e
      · rw [show min t e = t from by omega] at x5
        go_wp2_with fail
        go_quiet (fail)
        go_wp2
        go_roundw
        case rel => exact ⟨i + 1, by omega, by omega, by go_num, below_drewN hB _⟩
        case measure => simp [intOf]; omega
      · rw [show min t e = e from by omega] at x5
        go_wp2_with fail
        go_quiet (fail)
        go_wp2
        go_roundw
        case rel => exact ⟨i + 1, by omega, by omega, by go_num, below_drewN hB _⟩
        case measure => simp [intOf]; omega
    · obtain rfl : i = Q.length := by omega
      have B2 := bel_tr HB0.out hB
      have a5 := ints_below HI5.out hB
      rcases a5 with hnil | ⟨g5, o5, rfl, h5⟩
      · rw [hnil] at q2; exact absurd q2 (Nat.not_lt_zero _)
      have x5 := h5 0 q2
      rw [HMI.out 0 (by omega), if_pos rfl, show o5 + 0 = o5 from rfl] at x5
      have HB2 := Lib.hid B2
      clear h5 hB B2
      go_wp2_with fail
      go_ret
      exact ⟨rfl, HB2.out⟩

set_option maxRecDepth 100000 in
theorem lifted (os : Os) (started : os.Started) (H : Type) (enc : TypeId × Value → H) :
    ReturnsInHanded {} Try.checked os 8 .any (Rows.fnMissingAtSpec.pre6 enc Try.prog Try.f8 Rows.fnMissingAtRow.domain false) (Rows.fnMissingAtSpec.post enc Try.prog Try.f8 false true false false) := by
  refine returnsInHanded_of_change (C := Try.checked) own started (by kernel_rfl) Try.func8
    (ChangeSpec.witness6 (enc := enc) (C := Try.checked) false ⟨#[], #[.slice none 0 0], []⟩ 8 (by kernel_rfl) (by kernel_rfl) (by kernel_rfl) (by kernel_rfl)) ?_
  intro W base args ds gs before hval0 hW hcnd _
  have hval : ∀ (j : Nat) t v, Try.f8.params[j]? = some t → args[j]? = some v → Value.okWide Try.prog W .any base t v := hval0
  have hW' := hW
  obtain ⟨p, q, hA0, hV, rfl, hfz, hnd⟩ := hW
  have hA : DataW.TrodAll enc Try.prog W 0 (fun _ => true) true Try.f8.params.toList args.toList ds p := hA0
  rw [Try.params8] at hA hval
  obtain ⟨v0, vs0, e0, es0, p0, q0, hargs, rfl, rfl, h0, r0⟩ := trodAll_cons hA
  obtain ⟨rfl, rfl, rfl⟩ := trodAll_nil r0
  obtain rfl : args = #[v0] := by cases args; simp_all
  obtain ⟨rfl, rfl⟩ := trodVars_none hV
  have k0 := h0
  have lt0 : ∀ x ∈ p0, x.block < W.heap.size := by obtain ⟨m, hm⟩ := k0; exact DataW.trod_lt m _ _ _ hm
  obtain ⟨a0, len0, cap0, rfl⟩ := okWide_slice Try.underlying38 (hval 0 38 v0 rfl rfl)
  obtain ⟨z0, w0⟩ : ∃ zs, IsRow .u8 W a0 len0 cap0 zs := by
    obtain ⟨fuel, hf⟩ := h0
    rcases open_ints Try.underlying38 Try.underlying5 (by kernel_rfl) hf with ⟨hcs, _⟩ | ⟨x, l, c, zs, hcs, _, hl, hm, hz, _, hcell, hwz⟩
    · simp [Value.cells] at hcs
      obtain ⟨rfl, rfl, rfl⟩ := hcs
      exact ⟨[], .inl ⟨rfl, rfl, rfl, rfl⟩⟩
    · simp [Value.cells] at hcs
      obtain ⟨rfl, rfl, rfl⟩ := hcs
      exact ⟨zs, .inr ⟨_, rfl, hl, hm, by simpa using hz, hcell, hwz⟩⟩
  clear hA0 hval0
  refine (walk a0 len0 cap0 z0 W w0).mono fun e W' ⟨he, bel⟩ => ?_
  subst he
  exact ⟨_, rfl, _, _, _, [], _, [], hW', trodAll_mk1 (shut_bool Try.underlying4 _), (trodAll_cons_mk (Below.trod laidOut (by kernel_rfl) (of_decide_eq_true (by kernel_rfl)) k0 bel lt0) trodAll_mk0), rfl, bel.frame _, fun h => by cases h⟩

theorem over : Rows.fnMissingAtRow.holds Try.pinned (OpenSpec.ofChange Rows.fnMissingAtSpec) :=
  OpenClaim.holds_of_wide 8 Try.f8 rfl rfl rfl rfl rfl rfl rfl ⟨rfl, rfl, rfl, rfl, rfl⟩ rfl rfl rfl rfl rfl (by kernel_rfl) Try.func8 (by kernel_rfl)
    (of_decide_eq_true (by kernel_rfl)) (by unfold Func.isWrapper; first | (rw [if_pos (by decide +kernel)]; kernel_rfl) | (rw [if_neg (by decide +kernel)]; exact ⟨rfl, rfl⟩))
    (fun os started H enc _ => lifted os started H enc)

end Go.Proofs.Ytigapnbpgbfbhaa.fnMissingAt
namespace Go.Proofs.Ytigapnbpgbfbhaa
/-- the statement -/
theorem fnMissingAt_holds : Rows.FnMissingAtSaid := fnMissingAt.over
end Go.Proofs.Ytigapnbpgbfbhaa
