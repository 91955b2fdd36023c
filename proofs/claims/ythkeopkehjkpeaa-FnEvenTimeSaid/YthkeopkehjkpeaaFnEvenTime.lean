/- For every input the law answers true, and its argument reads afterwards as before: all comes again after the even time. No condition. -/
import Derived.Test.YthkeopkehjkpeaaRows
import Derived.Test.YthkeopkehjkpeaaDrawTm
import Derived.Test.YthkeopkehjkpeaaTurnL
import Derived.WalkKit
import Derived.ProofKit
import Derived.OpenShut
import Derived.ShutString
import Derived.ChangeOld
import Derived.Below
import Derived.Lib.SmallJoins
namespace Go.Proofs.Ythkeopkehjkpeaa.fnEvenTime
open Go.ChangeShapes Go.WideShapes Go.ChangeAt Go.RowKit Go.Joins
open Go.ChangeMaps (open_string shut_string)
set_option linter.unusedVariables false

theorem own : ownKnob Try.prog.godebug = none := by kernel_rfl
theorem laidOut : laidOutB Try.prog = true := by kernel_rfl

set_option maxRecDepth 100000 in
set_option maxHeartbeats 6000000 in
theorem walk (a0 : Option Addr) (len0 cap0 : Nat) (z0 : List Int) (w : World) (w0 : IsRow .u8 w a0 len0 cap0 z0) :
    Calls Try.prog 10 #[.slice a0 len0 cap0] w fun e w' => e = .returned (.bool true) ∧ Below w.heap.size w w' := by
  by_cases big : (1048576 : Int) < (len0 : Int)
  · go_enter Try.func10, Try.ntmps10
    go_wp2
    go_ret
    exact ⟨rfl, Below.refl _ _⟩
  go_enter Try.func10, Try.ntmps10
  go_wp2_with fail
  refine (drawEvenTime a0 len0 cap0 z0 _ w0).mono ?_
  rintro e u1 ⟨b, cp, xs, rfl, hl6, hlc, hi, hz, B⟩
  clear w0 big
  have n1 : xs.length ≤ 1048576 := by omega
  have HI := Lib.hid hi
  have HZ := Lib.hid hz
  have D := Below.refl u1.heap.size u1
  clear hi hz
  by_cases hv : evenV xs = -1
  · have HVV := Lib.hid hv
    have CIEvenTime : ∀ W, Below u1.heap.size u1 W → Calls Try.prog 37 #[.slice b xs.length cp] W fun e w' => e = .returned (.int .i64 (-1)) ∧ Below W.heap.size W w' := fun W hW => by
      have := iEvenTime b cp xs W (tn_below HI.out hW) n1 hlc
      rw [HVV.out] at this; exact this
    have CSEvenTime : ∀ W, Below u1.heap.size u1 W → Calls Try.prog 38 #[.slice b xs.length cp] W fun e w' => e = .returned (.int .i64 (-1)) ∧ Below W.heap.size W w' := fun W hW => by
      have := sEvenTime b cp xs W (tn_below HI.out hW) n1
      rw [HVV.out] at this; exact this
    clear hv
    go_wp2_with fail
    refine (CIEvenTime _ D).mono ?_
    rintro e u ⟨rfl, C⟩
    replace B := bel_tr B C
    replace D := bel_tr D C
    clear C
    go_wp2_with fail
    refine (CSEvenTime _ D).mono ?_
    rintro e u ⟨rfl, C⟩
    replace B := bel_tr B C
    replace D := bel_tr D C
    clear C
    go_wp2_with fail
    refine (CSEvenTime _ D).mono ?_
    rintro e u ⟨rfl, C⟩
    replace B := bel_tr B C
    replace D := bel_tr D C
    clear C
    go_wp2_with fail
    go_ret
    exact ⟨rfl, B⟩
  · have ha := fun o hle => even_again hv o hle
    obtain ⟨ok, c, d, ev, ed, v1, v2⟩ := even_is hv
    obtain ⟨l1, l24, hok, s0, s1⟩ := vt_is ok
    obtain ⟨v, hvv⟩ : ∃ v, evenV xs = v := ⟨_, rfl⟩
    obtain ⟨p, hpp⟩ : ∃ p, sumT xs = p := ⟨_, rfl⟩
    have HP := Lib.hid ((per_val ok).trans hpp)
    rw [hvv] at ev ed v1 v2 ha
    rw [hpp] at ev s0 s1
    have r24 : v.tmod 24 = 0 := Int.tmod_eq_zero_of_dvd ⟨d, by rw [ed, Int.mul_comm]⟩
    have rp : v.tmod p = 0 := Int.tmod_eq_zero_of_dvd ⟨c, ev⟩
    have CIEvenTime : ∀ W, Below u1.heap.size u1 W → Calls Try.prog 37 #[.slice b xs.length cp] W fun e w' => e = .returned (.int .i64 v) ∧ Below W.heap.size W w' := fun W hW => by
      have := iEvenTime b cp xs W (tn_below HI.out hW) n1 hlc
      rw [hvv] at this; exact this
    have CSEvenTime : ∀ W, Below u1.heap.size u1 W → Calls Try.prog 38 #[.slice b xs.length cp] W fun e w' => e = .returned (.int .i64 v) ∧ Below W.heap.size W w' := fun W hW => by
      have := sEvenTime b cp xs W (tn_below HI.out hW) n1
      rw [hvv] at this; exact this
    have CH : ∀ o x y V, hoursV xs o x y = V → -1000000 ≤ o ∧ o ≤ 1000000 → -1000000 ≤ x ∧ x ≤ 1000000 → -1000000 ≤ y ∧ y ≤ 1000000 → ∀ W, Below u1.heap.size u1 W → Calls Try.prog 20 #[.slice b xs.length cp, .int .i64 o, .int .i64 x, .int .i64 y] W fun e w' => e = .returned (.int .i64 V) ∧ Below W.heap.size W w' := fun o x y V hV bo bx bp W hW => by
      have := iHoursIn b cp xs o x y W (tn_below HI.out hW) n1 hlc (wf_small bo) (wf_small bx) (wf_small bp)
      rw [hV] at this; exact this
    have CN : ∀ o x y V, nightsV xs o x y = V → -1000000 ≤ o ∧ o ≤ 1000000 → -1000000 ≤ x ∧ x ≤ 1000000 → -1000000 ≤ y ∧ y ≤ 1000000 → ∀ W, Below u1.heap.size u1 W → Calls Try.prog 34 #[.slice b xs.length cp, .int .i64 o, .int .i64 x, .int .i64 y] W fun e w' => e = .returned (.int .i64 V) ∧ Below W.heap.size W w' := fun o x y V hV bo bx bp W hW => by
      have := iNightsIn b cp xs o x y W (tn_below HI.out hW) n1 hlc (wf_small bo) (wf_small bx) (wf_small bp)
      rw [hV] at this; exact this
    have CP : ∀ W, Below u1.heap.size u1 W → Calls Try.prog 17 #[.slice b xs.length cp] W fun e w' => e = .returned (.int .i64 p) ∧ Below W.heap.size W w' := fun W hW => by
      have := iPeriodOf b cp xs W (tn_below HI.out hW) n1 hlc
      rw [HP.out] at this; exact this
    have vf : decide (v < 0) = false := decide_eq_false (by omega)
    have wr1 : IntKind.i64.wrap (v + 60) = v + 60 := wrap_small (by omega)
    have p0 : (p == 0) = false := by simpa using (show p ≠ 0 by omega)
    have p1 : p ≠ 0 := by omega
    have HA := Lib.hid ha
    clear hv hvv hpp ev ed ok hok ha
    go_wp2_with fail
    refine (CIEvenTime _ D).mono ?_
    rintro e u ⟨rfl, C⟩
    replace B := bel_tr B C
    replace D := bel_tr D C
    clear C
    go_wp2_with fail
    refine (CSEvenTime _ D).mono ?_
    rintro e u ⟨rfl, C⟩
    replace B := bel_tr B C
    replace D := bel_tr D C
    clear C
    go_wp2_with fail
    clear CIEvenTime CSEvenTime
    go_loopw [5] (fun x wr => ∃ q : Int, x = .int .i64 q ∧ 1 ≤ q ∧ q ≤ 8 ∧ Below w.heap.size w wr ∧ Below u1.heap.size u1 wr) (fun x _ => (8 - intOf x).toNat)
    case atStart => exact ⟨1, rfl, by omega, by omega, B, D⟩
    case round =>
      clear B D
      obtain ⟨q, rfl, q1, q8, B, D⟩ := hrel
      have wrq : IntKind.i64.wrap (q + 1) = q + 1 := wrap_small (by omega)
      by_cases hq : q < 8
      · by_cases h6 : v + 60 ≤ 5000
        · obtain ⟨h0, n0⟩ := HA.out q h6
          have C1 := fun W hW => CH q 0 60 _ rfl (by omega) (by omega) (by omega) W hW
          have C2 := fun W hW => CH q v (v + 60) _ h0 (by omega) (by omega) (by omega) W hW
          have C3 := fun W hW => CN q 0 60 _ rfl (by omega) (by omega) (by omega) W hW
          have C4 := fun W hW => CN q v (v + 60) _ n0 (by omega) (by omega) (by omega) W hW
          clear h0 n0 CH CN
          generalize hoursV xs q 0 60 = x1 at C1 C2
          generalize nightsV xs q 0 60 = x2 at C3 C4
          go_wp2_with fail
          refine (C1 _ D).mono ?_
          rintro e u ⟨rfl, C⟩
          replace B := bel_tr B C
          replace D := bel_tr D C
          clear C
          go_wp2_with fail
          refine (C2 _ D).mono ?_
          rintro e u ⟨rfl, C⟩
          replace B := bel_tr B C
          replace D := bel_tr D C
          clear C
          go_wp2_with fail
          refine (C3 _ D).mono ?_
          rintro e u ⟨rfl, C⟩
          replace B := bel_tr B C
          replace D := bel_tr D C
          clear C
          go_wp2_with fail
          refine (C4 _ D).mono ?_
          rintro e u ⟨rfl, C⟩
          replace B := bel_tr B C
          replace D := bel_tr D C
          clear C
          go_wp2_with fail
          go_roundw
          case rel => exact ⟨q + 1, rfl, by omega, by omega, B, D⟩
          case measure => simp [intOf]; omega
        · have e7 : decide (v + 60 ≤ 5000) = false := decide_eq_false h6
          clear h6 CH CN
          go_wp2_with fail
          refine (CP _ D).mono ?_
          rintro e u ⟨rfl, C⟩
          replace B := bel_tr B C
          clear C
          go_wp2_with fail
          go_ret
          exact ⟨rfl, B⟩
      · have e7 : decide (q < 8) = false := decide_eq_false hq
        clear CH CN hq
        go_wp2_with fail
        refine (CP _ D).mono ?_
        rintro e u ⟨rfl, C⟩
        replace B := bel_tr B C
        clear C
        go_wp2_with fail
        go_ret
        exact ⟨rfl, B⟩

set_option maxRecDepth 100000 in
theorem lifted (os : Os) (started : os.Started) (H : Type) (enc : TypeId × Value → H) :
    ReturnsInHanded {} Try.checked os 10 .any (Rows.fnEvenTimeSpec.pre6 enc Try.prog Try.f10 Rows.fnEvenTimeRow.domain false) (Rows.fnEvenTimeSpec.post enc Try.prog Try.f10 false true false false) := by
  refine returnsInHanded_of_change (C := Try.checked) own started (by kernel_rfl) Try.func10
    (ChangeSpec.witness6 (enc := enc) (C := Try.checked) false ⟨#[], #[.slice none 0 0], []⟩ 8 (by kernel_rfl) (by kernel_rfl) (by kernel_rfl) (by kernel_rfl)) ?_
  intro W base args ds gs before hval0 hW hcnd _
  have hval : ∀ (j : Nat) t v, Try.f10.params[j]? = some t → args[j]? = some v → Value.okWide Try.prog W .any base t v := hval0
  have hW' := hW
  obtain ⟨p, q, hA0, hV, rfl, hfz, hnd⟩ := hW
  have hA : DataW.TrodAll enc Try.prog W 0 (fun _ => true) true Try.f10.params.toList args.toList ds p := hA0
  rw [Try.params10] at hA hval
  obtain ⟨v0, vs0, e0, es0, p0, q0, hargs, rfl, rfl, h0, r0⟩ := trodAll_cons hA
  obtain ⟨rfl, rfl, rfl⟩ := trodAll_nil r0
  obtain rfl : args = #[v0] := by cases args; simp_all
  obtain ⟨rfl, rfl⟩ := trodVars_none hV
  have k0 := h0
  have lt0 : ∀ x ∈ p0, x.block < W.heap.size := by obtain ⟨m, hm⟩ := k0; exact DataW.trod_lt m _ _ _ hm
  obtain ⟨a0, len0, cap0, rfl⟩ := okWide_slice Try.underlying22 (hval 0 22 v0 rfl rfl)
  obtain ⟨z0, w0⟩ : ∃ zs, IsRow .u8 W a0 len0 cap0 zs := by
    obtain ⟨fuel, hf⟩ := h0
    rcases open_ints Try.underlying22 Try.underlying5 (by kernel_rfl) hf with ⟨hcs, _⟩ | ⟨x, l, c, zs, hcs, _, hl, hm, hz, _, hcell, hwz⟩
    · simp [Value.cells] at hcs
      obtain ⟨rfl, rfl, rfl⟩ := hcs
      exact ⟨[], .inl ⟨rfl, rfl, rfl, rfl⟩⟩
    · simp [Value.cells] at hcs
      obtain ⟨rfl, rfl, rfl⟩ := hcs
      exact ⟨zs, .inr ⟨_, rfl, hl, hm, by simpa using hz, hcell, hwz⟩⟩
  clear hA0 hval0
  refine (walk a0 len0 cap0 z0 W w0).mono fun e W' ⟨he, bel⟩ => ?_
  subst he
  exact ⟨_, rfl, _, _, _, [], _, [], hW', trodAll_mk1 (shut_bool Try.underlying4 _), (trodAll_cons_mk (Below.trod laidOut (by kernel_rfl) (of_decide_eq_true (by kernel_rfl)) k0 bel lt0) trodAll_mk0), rfl, bel.frame _, fun h => by cases h⟩

theorem over : Rows.fnEvenTimeRow.holds Try.pinned (OpenSpec.ofChange Rows.fnEvenTimeSpec) :=
  OpenClaim.holds_of_wide 10 Try.f10 rfl rfl rfl rfl rfl rfl rfl ⟨rfl, rfl, rfl, rfl, rfl⟩ rfl rfl rfl rfl rfl (by kernel_rfl) Try.func10 (by kernel_rfl)
    (of_decide_eq_true (by kernel_rfl)) (by unfold Func.isWrapper; first | (rw [if_pos (by decide +kernel)]; kernel_rfl) | (rw [if_neg (by decide +kernel)]; exact ⟨rfl, rfl⟩))
    (fun os started H enc _ => lifted os started H enc)

end Go.Proofs.Ythkeopkehjkpeaa.fnEvenTime
namespace Go.Proofs.Ythkeopkehjkpeaa
/-- the statement -/
theorem fnEvenTime_holds : Rows.FnEvenTimeSaid := fnEvenTime.over
end Go.Proofs.Ythkeopkehjkpeaa
