/- For every input the law answers true, and its argument reads afterwards as before: turns are shares of the period. No condition. -/
import Derived.Test.YtclpbbhhaclgbaaRows
import Derived.Test.YtclpbbhhaclgbaaPkFnTurnsForf
import Derived.WalkKit
import Derived.ProofKit
import Derived.OpenShut
import Derived.ShutString
import Derived.ChangeOld
import Derived.Below
import Derived.Lib.SmallJoins
namespace Go.Proofs.Ytclpbbhhaclgbaa.fnTurnsFor
open Go.ChangeShapes Go.WideShapes Go.ChangeAt Go.RowKit Go.Joins
open Go.ChangeMaps (open_string shut_string)
set_option linter.unusedVariables false
set_option linter.unusedSimpArgs false

theorem own : ownKnob Try.prog.godebug = none := by kernel_rfl
theorem laidOut : laidOutB Try.prog = true := by kernel_rfl

set_option maxRecDepth 100000 in
set_option maxHeartbeats 8000000 in
theorem walk (a0 : Option Addr) (len0 cap0 : Nat) (z0 : List Int) (w : World) (w0 : IsRow .u8 w a0 len0 cap0 z0) :
    Calls Try.prog 10 #[.slice a0 len0 cap0] w fun e w' => e = .returned (.bool true) ∧ Below w.heap.size w w' := by
  by_cases big : (1048576 : Int) < (len0 : Int)
  · go_enter Try.func10, Try.ntmps10
    go_wp2
    go_ret
    exact ⟨rfl, Below.refl _ _⟩
  go_enter Try.func10, Try.ntmps10
  go_wp2_with fail
  refine (drawTurnsFor a0 len0 cap0 z0 _ w0).mono ?_
  rintro e u1 ⟨b, cp, hs, n, rfl, hl6, hlc, hi, q0, q1, B⟩
  clear w0 big
  have n1 : hs.length ≤ 1048576 := by omega
  have HI := Lib.hid hi
  have D := Below.refl u1.heap.size u1
  have CI : Hid (∀ W, Below u1.heap.size u1 W → Calls Try.prog 34 #[.slice b hs.length cp, .int .i64 n] W (OutTT W (tfB hs n) (tfL hs n))) := fun W hW => iTurnsFor b cp hs n W (hs_below HI.out hW) n1
  have CS : Hid (∀ W, Below u1.heap.size u1 W → Calls Try.prog 38 #[.slice b hs.length cp, .int .i64 n] W (OutTT W (tfB hs n) (tfL hs n))) := fun W hW => sTurnsFor b cp hs n W (hs_below HI.out hW) n1
  clear hi
  cases hv : tfB hs n with
  | false =>
    rw [hv] at CI CS
    have CE : ∀ W, Calls Try.prog 35 #[.slice none 0 0, .slice none 0 0] W fun e w' => e = .returned (.bool true) ∧ Below W.heap.size W w' := fun W => eqTn none none 0 0 [] W (.inl rfl) (.inl rfl) (by decide)
    clear hv
    go_wp2_with fail
    refine (CI.out _ D).mono ?_
    rintro e u2 ⟨m1, m2, C⟩
    obtain rfl := m1 rfl
    replace B := bel_tr B C
    replace D := bel_tr D C
    clear m1 m2 C
    go_wp2_with fail
    refine (CS.out _ D).mono ?_
    rintro e u3 ⟨m1, m2, C⟩
    obtain rfl := m1 rfl
    replace B := bel_tr B C
    clear m1 m2 C
    go_wp2_with fail
    refine (CE _).mono ?_
    rintro e u4 ⟨rfl, C⟩
    replace B := bel_tr B C
    clear C
    go_wp2_with fail
    refine (CE _).mono ?_
    rintro e u5 ⟨rfl, C⟩
    replace B := bel_tr B C
    clear C
    go_wp2_with fail
    go_ret
    exact ⟨rfl, B⟩
  | true =>
    obtain ⟨ok, h12, hvt, hsum, hlaw⟩ := tf_law hv
    obtain ⟨_, a1, a2, _⟩ := tf_is hv
    have nR : (tfL hs n).length ≤ 1048576 := by have := tf_len hs n; omega
    have hper : perV (tfL hs n) = n := by unfold perV; rw [hvt, if_pos rfl, hsum]
    have hho : ∀ o, hoursV (tfL hs n) o 0 n = ownS (tfL hs n) o := fun o => by
      have := hours_per hvt (o := o) (a := 0) (by omega) (by omega)
      rw [hsum, Int.zero_add] at this; exact this
    rw [hv] at CI CS
    have wn : (Lit.int .i64 n).wf = true := wf_small (by omega)
    have HO : Hid (∀ k, k < hs.length → 1 ≤ (hs.getD k hd0).1 ∧ (hs.getD k hd0).1 ≤ 999) := fun k hk => ow_get ok hk
    have HP := Lib.hid hper
    have HH := Lib.hid hho
    have HV := Lib.hid hvt
    have HL := Lib.hid hlaw
    clear hv hper hho hvt hlaw ok hsum
    generalize tfL hs n = R at *
    go_wp2_with fail
    refine (CI.out _ D).mono ?_
    rintro e u2 ⟨m1, m2, C⟩
    obtain ⟨g5, c5, rfl, lg5, F5, hc5⟩ := m2 rfl
    replace B := bel_tr B C
    replace D := bel_tr D C
    have I5 := F5.tn
    clear m1 m2 C F5
    go_wp2_with fail
    refine (CS.out _ D).mono ?_
    rintro e u3 ⟨m1, m2, C⟩
    obtain ⟨g6, c6, rfl, lg6, F6, hc6⟩ := m2 rfl
    replace B := bel_tr B C
    replace D := bel_tr D C
    replace I5 := tn_below I5 C
    have I6 := F6.tn
    clear m1 m2 C F6
    go_wp2_with fail
    refine (eqTn _ _ _ _ R _ I5 I6 nR).mono ?_
    rintro e u4 ⟨rfl, C⟩
    replace B := bel_tr B C
    replace D := bel_tr D C
    replace I5 := tn_below I5 C
    clear C I6
    have E := Below.refl u4.heap.size u4
    have HI5 := Lib.hid I5
    clear I5 CI CS
    have CP : Hid (∀ W, Below u4.heap.size u4 W → Calls Try.prog 36 #[.slice (some ⟨g5, 0, none⟩) R.length c5] W fun e w' => e = .returned (.int .i64 n) ∧ Below W.heap.size W w') := fun W hW => by
      have := iPeriodOf _ c5 R W (tn_below HI5.out hW) nR hc5
      rw [HP.out] at this; exact this
    have CV : Hid (∀ W, Below u4.heap.size u4 W → Calls Try.prog 41 #[.slice (some ⟨g5, 0, none⟩) R.length c5] W fun e w' => e = .returned (.bool true) ∧ Below W.heap.size W w') := fun W hW => by
      have := iVT _ c5 R W (tn_below HI5.out hW) nR
      rw [HV.out] at this; exact this
    have CH : Hid (∀ o W, (Lit.int .i64 o).wf = true → Below u4.heap.size u4 W → Calls Try.prog 40 #[.slice (some ⟨g5, 0, none⟩) R.length c5, .int .i64 o, .int .i64 0, .int .i64 n] W fun e w' => e = .returned (.int .i64 (ownS R o)) ∧ Below W.heap.size W w') := fun o W wo hW => by
      have := iHoursIn _ c5 R o 0 n W (tn_below HI5.out hW) nR hc5 wo (by decide) wn
      rw [HH.out] at this; exact this
    have hcl := HI.out
    go_wp2_with fail
    go_loopw [9] (fun x wr => ∃ k : Nat, k ≤ hs.length ∧ x = .int .i64 k ∧ Below w.heap.size w wr ∧ Below u1.heap.size u1 wr ∧ Below u4.heap.size u4 wr) (fun x _ => hs.length - (intOf x).toNat)
    case atStart => exact ⟨0, Nat.zero_le _, rfl, B, D, E⟩
    case round =>
      clear B D E
      obtain ⟨k, hk, rfl, B, D, E⟩ := hrel
      by_cases hlt : k < hs.length
      · rcases hcl with rfl | ⟨g, oo, rfl, hc⟩
        · simp at hlt
        obtain ⟨c0, c1, c2⟩ := hc k hlt
        replace c0 := (D.cell (World.block_lt_of_cell? _ _ c0)).trans c0
        replace c1 := (D.cell (World.block_lt_of_cell? _ _ c1)).trans c1
        replace c2 := (D.cell (World.block_lt_of_cell? _ _ c2)).trans c2
        obtain ⟨l1, l2, l3⟩ := HL.out k hlt
        obtain ⟨o0, o1⟩ := HO.out k hlt
        have ep := Wsh.partI_yes (n := n) (by omega) l1
        have CA := fun W => iPart n (hs.getD k hd0).2.1 (hs.getD k hd0).2.2 W
        rw [ep] at CA
        have bd : 0 ≤ n * (hs.getD k hd0).2.1 / (hs.getD k hd0).2.2 ∧ n * (hs.getD k hd0).2.1 / (hs.getD k hd0).2.2 ≤ 4000000 := by
          obtain ⟨v1, v2, v3, v4, _⟩ := (Wsh.vfB_iff _ _).1 l1
          generalize (hs.getD k hd0).2.1 = x at *
          generalize (hs.getD k hd0).2.2 = y at *
          have p1 : 0 ≤ n * x := Int.mul_nonneg (by omega) v3
          have p2 : n * x ≤ 336 * 10000 := Int.mul_le_mul (by omega) (by omega) v3 (by omega)
          exact ⟨Int.ediv_nonneg p1 (by omega), by have := Int.ediv_le_self y p1; omega⟩
        generalize n * (hs.getD k hd0).2.1 / (hs.getD k hd0).2.2 = low at *
        have CH2 := fun W wo hW => CH.out (hs.getD k hd0).1 W wo hW
        generalize (hs.getD k hd0).2.1 = x at *
        generalize (hs.getD k hd0).2.2 = y at *
        generalize (hs.getD k hd0).1 = ow at *
        generalize ownS R ow = z at *
        have d1 : decide (z < low) = false := decide_eq_false (by omega)
        have d2 : decide (low + 1 < z) = false := decide_eq_false (by omega)
        have wl : IntKind.i64.wrap (low + 1) = low + 1 := by rw [IntKind.wrap_i64]; omega
        have k0 : (0 : Int) ≤ (k : Int) := by omega
        have k1 : (k : Int) < (hs.length : Int) := by omega
        have wo : (Lit.int .i64 ow).wf = true := wf_small (by omega)
        have HCA := Lib.hid CA
        have HCH := Lib.hid (fun W hW => CH2 W wo hW)
        clear hc l1 ep CA CH2
        go_wp2_with fail
        refine (HCA.out _).mono ?_
        rintro e u5 ⟨rfl, C⟩
        replace B := bel_tr B C
        replace D := bel_tr D C
        replace E := bel_tr E C
        replace c0 := (C.cell (World.block_lt_of_cell? _ _ c0)).trans c0
        clear C c1 c2
        go_wp2_with fail
        refine (HCH.out _ E).mono ?_
        rintro e u6 ⟨rfl, C⟩
        replace B := bel_tr B C
        replace D := bel_tr D C
        replace E := bel_tr E C
        clear C c0
        go_wp2_with fail
        go_roundw
        case rel => exact ⟨k + 1, by omega, by go_num, B, D, E⟩
        case measure => simp [intOf]; omega
      · obtain rfl : k = hs.length := by omega
        clear hcl hlt
        go_wp2_with fail
        refine (CP.out _ E).mono ?_
        rintro e u5 ⟨rfl, C⟩
        replace B := bel_tr B C
        replace E := bel_tr E C
        clear C
        go_wp2_with fail
        refine (CV.out _ E).mono ?_
        rintro e u6 ⟨rfl, C⟩
        replace B := bel_tr B C
        clear C
        go_wp2_with fail
        go_ret
        exact ⟨rfl, B⟩

set_option maxRecDepth 100000 in
theorem lifted (os : Os) (started : os.Started) (H : Type) (enc : TypeId × Value → H) :
    ReturnsInHanded {} Try.checked os 10 .any (Rows.fnTurnsForSpec.pre6 enc Try.prog Try.f10 Rows.fnTurnsForRow.domain false) (Rows.fnTurnsForSpec.post enc Try.prog Try.f10 false true false false) := by
  refine returnsInHanded_of_change (C := Try.checked) own started (by kernel_rfl) Try.func10
    (ChangeSpec.witness6 (enc := enc) (C := Try.checked) false ⟨#[], #[.slice none 0 0], []⟩ 8 (by kernel_rfl) (by kernel_rfl) (by kernel_rfl) (by kernel_rfl)) ?_
  intro W base args ds gs before hval0 hW hcnd _
  have hval : ∀ (j : Nat) t v, Try.f10.params[j]? = some t → args[j]? = some v → Value.okWide Try.prog W .any base t v := hval0
  have hW' := hW
  obtain ⟨p, q, hA0, hV, rfl, hfz, hnd⟩ := hW
  have hA : DataW.TrodAll enc Try.prog W 0 (fun _ => true) true Try.f10.params.toList args.toList ds p := hA0
  rw [Try.params10] at hA hval
  obtain ⟨v0, vs0, e0, es0, p0, q0, hargs, rfl, rfl, h0, r0⟩ := trodAll_cons hA
  obtain ⟨rfl, rfl, rfl⟩ := trodAll_nil r0
  obtain rfl : args = #[v0] := by cases args; simp_all
  obtain ⟨rfl, rfl⟩ := trodVars_none hV
  have k0 := h0
  have lt0 : ∀ x ∈ p0, x.block < W.heap.size := by obtain ⟨m, hm⟩ := k0; exact DataW.trod_lt m _ _ _ hm
  obtain ⟨a0, len0, cap0, rfl⟩ := okWide_slice Try.underlying33 (hval 0 33 v0 rfl rfl)
  obtain ⟨z0, w0⟩ : ∃ zs, IsRow .u8 W a0 len0 cap0 zs := by
    obtain ⟨fuel, hf⟩ := h0
    rcases open_ints Try.underlying33 Try.underlying5 (by kernel_rfl) hf with ⟨hcs, _⟩ | ⟨x, l, c, zs, hcs, _, hl, hm, hz, _, hcell, hwz⟩
    · simp [Value.cells] at hcs
      obtain ⟨rfl, rfl, rfl⟩ := hcs
      exact ⟨[], .inl ⟨rfl, rfl, rfl, rfl⟩⟩
    · simp [Value.cells] at hcs
      obtain ⟨rfl, rfl, rfl⟩ := hcs
      exact ⟨zs, .inr ⟨_, rfl, hl, hm, by simpa using hz, hcell, hwz⟩⟩
  clear hA0 hval0
  refine (walk a0 len0 cap0 z0 W w0).mono fun e W' ⟨he, bel⟩ => ?_
  subst he
  exact ⟨_, rfl, _, _, _, [], _, [], hW', trodAll_mk1 (shut_bool Try.underlying4 _), (trodAll_cons_mk (Below.trod laidOut (by kernel_rfl) (of_decide_eq_true (by kernel_rfl)) k0 bel lt0) trodAll_mk0), rfl, bel.frame _, fun h => by cases h⟩

theorem over : Rows.fnTurnsForRow.holds Try.pinned (OpenSpec.ofChange Rows.fnTurnsForSpec) :=
  OpenClaim.holds_of_wide 10 Try.f10 rfl rfl rfl rfl rfl rfl rfl ⟨rfl, rfl, rfl, rfl, rfl⟩ rfl rfl rfl rfl rfl (by kernel_rfl) Try.func10 (by kernel_rfl)
    (of_decide_eq_true (by kernel_rfl)) (by unfold Func.isWrapper; first | (rw [if_pos (by decide +kernel)]; kernel_rfl) | (rw [if_neg (by decide +kernel)]; exact ⟨rfl, rfl⟩))
    (fun os started H enc _ => lifted os started H enc)

end Go.Proofs.Ytclpbbhhaclgbaa.fnTurnsFor
namespace Go.Proofs.Ytclpbbhhaclgbaa
/-- the statement -/
theorem fnTurnsFor_holds : Rows.FnTurnsForSaid := fnTurnsFor.over
end Go.Proofs.Ytclpbbhhaclgbaa
