/- For every input the law answers true, and its argument reads afterwards as before: the next hour is the next one. No condition. -/
import Derived.Test.YthkeopkehjkpeaaRows
import Derived.Test.YthkeopkehjkpeaaDrawTm
import Derived.Test.YthkeopkehjkpeaaTurnL
import Derived.WalkKit
import Derived.ProofKit
import Derived.OpenShut
import Derived.ShutString
import Derived.ChangeOld
import Derived.Below
import Derived.Lib.SmallJoins
namespace Go.Proofs.Ythkeopkehjkpeaa.fnNextHour
open Go.ChangeShapes Go.WideShapes Go.ChangeAt Go.RowKit Go.Joins
open Go.ChangeMaps (open_string shut_string)
set_option linter.unusedVariables false

theorem own : ownKnob Try.prog.godebug = none := by kernel_rfl
theorem laidOut : laidOutB Try.prog = true := by kernel_rfl

set_option maxRecDepth 100000 in
set_option maxHeartbeats 6000000 in
theorem walk (a0 : Option Addr) (len0 cap0 : Nat) (z0 : List Int) (w : World) (w0 : IsRow .u8 w a0 len0 cap0 z0) :
    Calls Try.prog 7 #[.slice a0 len0 cap0] w fun e w' => e = .returned (.bool true) ∧ Below w.heap.size w w' := by
  by_cases big : (1048576 : Int) < (len0 : Int)
  · go_enter Try.func7, Try.ntmps7
    go_wp2
    go_ret
    exact ⟨rfl, Below.refl _ _⟩
  go_enter Try.func7, Try.ntmps7
  go_wp2_with fail
  refine (drawNextHour a0 len0 cap0 z0 _ w0).mono ?_
  rintro e u1 ⟨b, cp, xs, o, t, rfl, hl6, hlc, hi, hz, o0, o1, t0, t1, B⟩
  clear w0 big
  have n1 : xs.length ≤ 1048576 := by omega
  have HI := Lib.hid hi
  have HZ := Lib.hid hz
  have D := Below.refl u1.heap.size u1
  clear hi hz
  by_cases hv : nextV xs o t = -1
  · have HVV := Lib.hid hv
    have CINextHour : ∀ W, Below u1.heap.size u1 W → Calls Try.prog 29 #[.slice b xs.length cp, .int .i64 o, .int .i64 t] W fun e w' => e = .returned (.int .i64 (-1)) ∧ Below W.heap.size W w' := fun W hW => by
      have := iNextHour b cp xs o t W (tn_below HI.out hW) n1 hlc (wf_small (by omega)) (wf_small (by omega))
      rw [HVV.out] at this; exact this
    have CSNextHour : ∀ W, Below u1.heap.size u1 W → Calls Try.prog 30 #[.slice b xs.length cp, .int .i64 o, .int .i64 t] W fun e w' => e = .returned (.int .i64 (-1)) ∧ Below W.heap.size W w' := fun W hW => by
      have := sNextHour b cp xs o t W (tn_below HI.out hW) n1
      rw [HVV.out] at this; exact this
    clear hv
    go_wp2_with fail
    refine (CINextHour _ D).mono ?_
    rintro e u ⟨rfl, C⟩
    replace B := bel_tr B C
    replace D := bel_tr D C
    clear C
    go_wp2_with fail
    refine (CSNextHour _ D).mono ?_
    rintro e u ⟨rfl, C⟩
    replace B := bel_tr B C
    replace D := bel_tr D C
    clear C
    go_wp2_with fail
    refine (CSNextHour _ D).mono ?_
    rintro e u ⟨rfl, C⟩
    replace B := bel_tr B C
    replace D := bel_tr D C
    clear C
    go_wp2_with fail
    go_ret
    exact ⟨rfl, B⟩
  · obtain ⟨ok, a0, a1, a2, a3, a4, a5⟩ := next_yes hv
    have s1 := (vt_is ok).2.2.2.2
    obtain ⟨v, hvv⟩ : ∃ v, nextV xs o t = v := ⟨_, rfl⟩
    obtain ⟨p, hpp⟩ : ∃ p, sumT xs = p := ⟨_, rfl⟩
    rw [hvv] at a1 a2 a3 a4 a5 hv
    rw [hpp] at a3 s1
    have HP := Lib.hid ((per_val ok).trans hpp)
    have CINextHour : ∀ W, Below u1.heap.size u1 W → Calls Try.prog 29 #[.slice b xs.length cp, .int .i64 o, .int .i64 t] W fun e w' => e = .returned (.int .i64 v) ∧ Below W.heap.size W w' := fun W hW => by
      have := iNextHour b cp xs o t W (tn_below HI.out hW) n1 hlc (wf_small (by omega)) (wf_small (by omega))
      rw [hvv] at this; exact this
    have CSNextHour : ∀ W, Below u1.heap.size u1 W → Calls Try.prog 30 #[.slice b xs.length cp, .int .i64 o, .int .i64 t] W fun e w' => e = .returned (.int .i64 v) ∧ Below W.heap.size W w' := fun W hW => by
      have := sNextHour b cp xs o t W (tn_below HI.out hW) n1
      rw [hvv] at this; exact this
    have CW : ∀ n W, 0 ≤ n → n ≤ 5000 → Below u1.heap.size u1 W → Calls Try.prog 24 #[.slice b xs.length cp, .int .i64 n] W fun e w' => e = .returned (.int .i64 (whoM xs n)) ∧ Below W.heap.size W w' := fun n W h0 h1 hW => by
      have := iWhoAt b cp xs n W (tn_below HI.out hW) n1 hlc (wf_small (by omega))
      rw [who_val ok h0 h1] at this; exact this
    have CP : ∀ W, Below u1.heap.size u1 W → Calls Try.prog 17 #[.slice b xs.length cp] W fun e w' => e = .returned (.int .i64 p) ∧ Below W.heap.size W w' := fun W hW => by
      have := iPeriodOf b cp xs W (tn_below HI.out hW) n1 hlc
      rw [HP.out] at this; exact this
    have CV : ∀ W, Below u1.heap.size u1 W → Calls Try.prog 24 #[.slice b xs.length cp, .int .i64 v] W fun e w' => e = .returned (.int .i64 o) ∧ Below W.heap.size W w' := fun W hW => by
      have := CW v W (by omega) a2 hW
      rw [a4] at this; exact this
    have HA := Lib.hid a5
    have vf : decide (v < 0) = false := decide_eq_false (by omega)
    have e8 : decide (t ≤ v) = true := decide_eq_true a1
    have e9 : decide (v < t + p) = true := decide_eq_true a3
    clear hv hvv hpp a4 a5
    go_wp2_with fail
    refine (CINextHour _ D).mono ?_
    rintro e u ⟨rfl, C⟩
    replace B := bel_tr B C
    replace D := bel_tr D C
    clear C
    go_wp2_with fail
    refine (CSNextHour _ D).mono ?_
    rintro e u ⟨rfl, C⟩
    replace B := bel_tr B C
    replace D := bel_tr D C
    clear C
    go_wp2_with fail
    clear CINextHour CSNextHour
    go_loopw [7] (fun x wr => ∃ n : Int, x = .int .i64 n ∧ t ≤ n ∧ n ≤ v ∧ Below w.heap.size w wr ∧ Below u1.heap.size u1 wr) (fun x _ => (v - intOf x).toNat)
    case atStart => exact ⟨t, rfl, Int.le_refl _, a1, B, D⟩
    case round =>
      clear B D
      obtain ⟨n, rfl, tn, nv, B, D⟩ := hrel
      by_cases hlt : n < v
      · have hne := HA.out n tn hlt
        have CWn := fun W hW => CW n W (by omega) (by omega) hW
        generalize whoM xs n = q at hne CWn
        have e7 : (q == o) = false := by simpa using hne
        clear hne CW
        go_wp2_with fail
        refine (CWn _ D).mono ?_
        rintro e u ⟨rfl, C⟩
        replace B := bel_tr B C
        replace D := bel_tr D C
        clear C
        go_wp2_with fail
        go_roundw
        case rel => exact ⟨n + 1, rfl, by omega, by omega, B, D⟩
        case measure => simp [intOf]; omega
      · have e7 : decide (n < v) = false := decide_eq_false hlt
        clear CW hlt
        go_wp2_with fail
        refine (CV _ D).mono ?_
        rintro e u ⟨rfl, C⟩
        replace B := bel_tr B C
        replace D := bel_tr D C
        clear C
        go_wp2_with fail
        refine (CP _ D).mono ?_
        rintro e u ⟨rfl, C⟩
        replace B := bel_tr B C
        clear C
        go_wp2_with fail
        go_ret
        exact ⟨rfl, B⟩

set_option maxRecDepth 100000 in
theorem lifted (os : Os) (started : os.Started) (H : Type) (enc : TypeId × Value → H) :
    ReturnsInHanded {} Try.checked os 7 .any (Rows.fnNextHourSpec.pre6 enc Try.prog Try.f7 Rows.fnNextHourRow.domain false) (Rows.fnNextHourSpec.post enc Try.prog Try.f7 false true false false) := by
  refine returnsInHanded_of_change (C := Try.checked) own started (by kernel_rfl) Try.func7
    (ChangeSpec.witness6 (enc := enc) (C := Try.checked) false ⟨#[], #[.slice none 0 0], []⟩ 8 (by kernel_rfl) (by kernel_rfl) (by kernel_rfl) (by kernel_rfl)) ?_
  intro W base args ds gs before hval0 hW hcnd _
  have hval : ∀ (j : Nat) t v, Try.f7.params[j]? = some t → args[j]? = some v → Value.okWide Try.prog W .any base t v := hval0
  have hW' := hW
  obtain ⟨p, q, hA0, hV, rfl, hfz, hnd⟩ := hW
  have hA : DataW.TrodAll enc Try.prog W 0 (fun _ => true) true Try.f7.params.toList args.toList ds p := hA0
  rw [Try.params7] at hA hval
  obtain ⟨v0, vs0, e0, es0, p0, q0, hargs, rfl, rfl, h0, r0⟩ := trodAll_cons hA
  obtain ⟨rfl, rfl, rfl⟩ := trodAll_nil r0
  obtain rfl : args = #[v0] := by cases args; simp_all
  obtain ⟨rfl, rfl⟩ := trodVars_none hV
  have k0 := h0
  have lt0 : ∀ x ∈ p0, x.block < W.heap.size := by obtain ⟨m, hm⟩ := k0; exact DataW.trod_lt m _ _ _ hm
  obtain ⟨a0, len0, cap0, rfl⟩ := okWide_slice Try.underlying22 (hval 0 22 v0 rfl rfl)
  obtain ⟨z0, w0⟩ : ∃ zs, IsRow .u8 W a0 len0 cap0 zs := by
    obtain ⟨fuel, hf⟩ := h0
    rcases open_ints Try.underlying22 Try.underlying5 (by kernel_rfl) hf with ⟨hcs, _⟩ | ⟨x, l, c, zs, hcs, _, hl, hm, hz, _, hcell, hwz⟩
    · simp [Value.cells] at hcs
      obtain ⟨rfl, rfl, rfl⟩ := hcs
      exact ⟨[], .inl ⟨rfl, rfl, rfl, rfl⟩⟩
    · simp [Value.cells] at hcs
      obtain ⟨rfl, rfl, rfl⟩ := hcs
      exact ⟨zs, .inr ⟨_, rfl, hl, hm, by simpa using hz, hcell, hwz⟩⟩
  clear hA0 hval0
  refine (walk a0 len0 cap0 z0 W w0).mono fun e W' ⟨he, bel⟩ => ?_
  subst he
  exact ⟨_, rfl, _, _, _, [], _, [], hW', trodAll_mk1 (shut_bool Try.underlying4 _), (trodAll_cons_mk (Below.trod laidOut (by kernel_rfl) (of_decide_eq_true (by kernel_rfl)) k0 bel lt0) trodAll_mk0), rfl, bel.frame _, fun h => by cases h⟩

theorem over : Rows.fnNextHourRow.holds Try.pinned (OpenSpec.ofChange Rows.fnNextHourSpec) :=
  OpenClaim.holds_of_wide 7 Try.f7 rfl rfl rfl rfl rfl rfl rfl ⟨rfl, rfl, rfl, rfl, rfl⟩ rfl rfl rfl rfl rfl (by kernel_rfl) Try.func7 (by kernel_rfl)
    (of_decide_eq_true (by kernel_rfl)) (by unfold Func.isWrapper; first | (rw [if_pos (by decide +kernel)]; kernel_rfl) | (rw [if_neg (by decide +kernel)]; exact ⟨rfl, rfl⟩))
    (fun os started H enc _ => lifted os started H enc)

end Go.Proofs.Ythkeopkehjkpeaa.fnNextHour
namespace Go.Proofs.Ythkeopkehjkpeaa
/-- the statement -/
theorem fnNextHour_holds : Rows.FnNextHourSaid := fnNextHour.over
end Go.Proofs.Ythkeopkehjkpeaa
