/- For every input the law answers true, and its argument reads afterwards as before: nights are parts of days. No condition. -/
import Derived.Test.YthkeopkehjkpeaaRows
import Derived.Test.YthkeopkehjkpeaaDrawTm
import Derived.Test.YthkeopkehjkpeaaTurnL
import Derived.WalkKit
import Derived.ProofKit
import Derived.OpenShut
import Derived.ShutString
import Derived.ChangeOld
import Derived.Below
import Derived.Lib.SmallJoins
namespace Go.Proofs.Ythkeopkehjkpeaa.fnNightsIn
open Go.ChangeShapes Go.WideShapes Go.ChangeAt Go.RowKit Go.Joins
open Go.ChangeMaps (open_string shut_string)
set_option linter.unusedVariables false

theorem own : ownKnob Try.prog.godebug = none := by kernel_rfl
theorem laidOut : laidOutB Try.prog = true := by kernel_rfl
theorem one_alone (w : World) : IsTn (w.alloc (.cells #[.int .i64 5, .int .i64 7] 31)) (some ⟨w.heap.size, 0, none⟩) [(5, 7)] := by
  refine .inr ⟨_, _, rfl, fun i hi => ?_⟩
  obtain rfl : i = 0 := by simp at hi; omega
  constructor <;> simp [go_sem]

set_option maxRecDepth 100000 in
set_option maxHeartbeats 6000000 in
theorem walk (a0 : Option Addr) (len0 cap0 : Nat) (z0 : List Int) (w : World) (w0 : IsRow .u8 w a0 len0 cap0 z0) :
    Calls Try.prog 9 #[.slice a0 len0 cap0] w fun e w' => e = .returned (.bool true) ∧ Below w.heap.size w w' := by
  by_cases big : (1048576 : Int) < (len0 : Int)
  · go_enter Try.func9, Try.ntmps9
    go_wp2
    go_ret
    exact ⟨rfl, Below.refl _ _⟩
  go_enter Try.func9, Try.ntmps9
  go_wp2_with fail
  refine (drawNightsIn a0 len0 cap0 z0 _ w0).mono ?_
  rintro e u1 ⟨b, cp, xs, o, f, t, rfl, hl6, hlc, hi, hz, o0, o1, f0, f1, t0, t1, B⟩
  clear w0 big
  have n1 : xs.length ≤ 1048576 := by omega
  have HI := Lib.hid hi
  have HZ := Lib.hid hz
  have D := Below.refl u1.heap.size u1
  clear hi hz
  by_cases hv : nightsV xs o f t = -1
  · have HVV := Lib.hid hv
    have CINightsIn : ∀ W, Below u1.heap.size u1 W → Calls Try.prog 34 #[.slice b xs.length cp, .int .i64 o, .int .i64 f, .int .i64 t] W fun e w' => e = .returned (.int .i64 (-1)) ∧ Below W.heap.size W w' := fun W hW => by
      have := iNightsIn b cp xs o f t W (tn_below HI.out hW) n1 hlc (wf_small (by omega)) (wf_small (by omega)) (wf_small (by omega))
      rw [HVV.out] at this; exact this
    have CSNightsIn : ∀ W, Below u1.heap.size u1 W → Calls Try.prog 35 #[.slice b xs.length cp, .int .i64 o, .int .i64 f, .int .i64 t] W fun e w' => e = .returned (.int .i64 (-1)) ∧ Below W.heap.size W w' := fun W hW => by
      have := sNightsIn b cp xs o f t W (tn_below HI.out hW) n1
      rw [HVV.out] at this; exact this
    clear hv
    go_wp2_with fail
    refine (CINightsIn _ D).mono ?_
    rintro e u ⟨rfl, C⟩
    replace B := bel_tr B C
    replace D := bel_tr D C
    clear C
    go_wp2_with fail
    refine (CSNightsIn _ D).mono ?_
    rintro e u ⟨rfl, C⟩
    replace B := bel_tr B C
    replace D := bel_tr D C
    clear C
    go_wp2_with fail
    refine (CSNightsIn _ D).mono ?_
    rintro e u ⟨rfl, C⟩
    replace B := bel_tr B C
    replace D := bel_tr D C
    clear C
    go_wp2_with fail
    go_ret
    exact ⟨rfl, B⟩
  · obtain ⟨ok, a0, a1, a2⟩ := nights_yes hv
    have hle := nights_le hv
    obtain ⟨v, hvv⟩ : ∃ v, nightsV xs o f t = v := ⟨_, rfl⟩
    obtain ⟨x1, hx1⟩ : ∃ x1, hoursV xs o f t = x1 := ⟨_, rfl⟩
    have v0 : 0 ≤ v := by
      rw [← hvv, nights_val ok a0 a1 a2]
      exact (cnt_bd _ f (t - f).toNat).1
    rw [hvv, hx1] at hle
    have CINightsIn : ∀ W, Below u1.heap.size u1 W → Calls Try.prog 34 #[.slice b xs.length cp, .int .i64 o, .int .i64 f, .int .i64 t] W fun e w' => e = .returned (.int .i64 v) ∧ Below W.heap.size W w' := fun W hW => by
      have := iNightsIn b cp xs o f t W (tn_below HI.out hW) n1 hlc (wf_small (by omega)) (wf_small (by omega)) (wf_small (by omega))
      rw [hvv] at this; exact this
    have CSNightsIn : ∀ W, Below u1.heap.size u1 W → Calls Try.prog 35 #[.slice b xs.length cp, .int .i64 o, .int .i64 f, .int .i64 t] W fun e w' => e = .returned (.int .i64 v) ∧ Below W.heap.size W w' := fun W hW => by
      have := sNightsIn b cp xs o f t W (tn_below HI.out hW) n1
      rw [hvv] at this; exact this
    have C1 : ∀ W, Below u1.heap.size u1 W → Calls Try.prog 20 #[.slice b xs.length cp, .int .i64 o, .int .i64 f, .int .i64 t] W fun e w' => e = .returned (.int .i64 x1) ∧ Below W.heap.size W w' := fun W hW => by
      have := iHoursIn b cp xs o f t W (tn_below HI.out hW) n1 hlc (wf_small (by omega)) (wf_small (by omega)) (wf_small (by omega))
      rw [hx1] at this; exact this
    have vf : decide (v < 0) = false := decide_eq_false (by omega)
    have le2 : decide (v ≤ x1) = true := decide_eq_true hle
    have wr2 : IntKind.i64.wrap (t - f) = t - f := wrap_small (by omega)
    clear hv hvv hx1
    go_wp2_with fail
    refine (CINightsIn _ D).mono ?_
    rintro e u ⟨rfl, C⟩
    replace B := bel_tr B C
    replace D := bel_tr D C
    clear C
    go_wp2_with fail
    refine (CSNightsIn _ D).mono ?_
    rintro e u ⟨rfl, C⟩
    replace B := bel_tr B C
    replace D := bel_tr D C
    clear C
    go_wp2_with fail
    clear CINightsIn CSNightsIn
    by_cases h48 : t - f = 48
    · have e48 : (t - f != 48) = false := by rw [h48]; rfl
      have CN : ∀ W A cp', IsTn W A [(5, 7)] → 1 ≤ cp' → Calls Try.prog 34 #[.slice A 1 cp', .int .i64 5, .int .i64 f, .int .i64 t] W fun e w' => e = .returned (.int .i64 20) ∧ Below W.heap.size W w' := fun W A cp' hA hc => by
        have := iNightsIn A cp' [(5, 7)] 5 f t W hA (by decide) hc (wf_small (by omega)) (wf_small (by omega)) (wf_small (by omega))
        rw [nights_alone a0 h48 a2] at this; exact this
      clear h48
      have A1 := one_alone u
      have B1 := B.alloc B.size (.cells #[.int .i64 5, .int .i64 7] 31)
      have D1 := D.alloc D.size (.cells #[.int .i64 5, .int .i64 7] 31)
      generalize (some ⟨u.heap.size, 0, none⟩ : Option Addr) = A at A1 ⊢
      generalize u.alloc (.cells #[.int .i64 5, .int .i64 7] 31) = U at A1 B1 D1 ⊢
      clear B D
      refine (C1 U D1).mono ?_
      rintro e u2 ⟨rfl, C⟩
      replace B1 := bel_tr B1 C
      replace A1 := tn_below A1 C
      clear C
      go_wp2_with fail
      refine (CN _ A 1 A1 (by decide)).mono ?_
      rintro e u3 ⟨rfl, C⟩
      replace B1 := bel_tr B1 C
      clear C
      go_wp2_with fail
      go_ret
      exact ⟨rfl, B1⟩
    · have e48 : (t - f != 48) = true := by simpa using h48
      have B1 := B.alloc B.size (.cells #[.int .i64 5, .int .i64 7] 31)
      have D1 := D.alloc D.size (.cells #[.int .i64 5, .int .i64 7] 31)
      clear h48
      go_wp2_with fail
      refine (C1 _ D1).mono ?_
      rintro e u2 ⟨rfl, C⟩
      replace B1 := bel_tr B1 C
      clear C
      go_wp2_with fail
      go_ret
      exact ⟨rfl, B1⟩

set_option maxRecDepth 100000 in
theorem lifted (os : Os) (started : os.Started) (H : Type) (enc : TypeId × Value → H) :
    ReturnsInHanded {} Try.checked os 9 .any (Rows.fnNightsInSpec.pre6 enc Try.prog Try.f9 Rows.fnNightsInRow.domain false) (Rows.fnNightsInSpec.post enc Try.prog Try.f9 false true false false) := by
  refine returnsInHanded_of_change (C := Try.checked) own started (by kernel_rfl) Try.func9
    (ChangeSpec.witness6 (enc := enc) (C := Try.checked) false ⟨#[], #[.slice none 0 0], []⟩ 8 (by kernel_rfl) (by kernel_rfl) (by kernel_rfl) (by kernel_rfl)) ?_
  intro W base args ds gs before hval0 hW hcnd _
  have hval : ∀ (j : Nat) t v, Try.f9.params[j]? = some t → args[j]? = some v → Value.okWide Try.prog W .any base t v := hval0
  have hW' := hW
  obtain ⟨p, q, hA0, hV, rfl, hfz, hnd⟩ := hW
  have hA : DataW.TrodAll enc Try.prog W 0 (fun _ => true) true Try.f9.params.toList args.toList ds p := hA0
  rw [Try.params9] at hA hval
  obtain ⟨v0, vs0, e0, es0, p0, q0, hargs, rfl, rfl, h0, r0⟩ := trodAll_cons hA
  obtain ⟨rfl, rfl, rfl⟩ := trodAll_nil r0
  obtain rfl : args = #[v0] := by cases args; simp_all
  obtain ⟨rfl, rfl⟩ := trodVars_none hV
  have k0 := h0
  have lt0 : ∀ x ∈ p0, x.block < W.heap.size := by obtain ⟨m, hm⟩ := k0; exact DataW.trod_lt m _ _ _ hm
  obtain ⟨a0, len0, cap0, rfl⟩ := okWide_slice Try.underlying22 (hval 0 22 v0 rfl rfl)
  obtain ⟨z0, w0⟩ : ∃ zs, IsRow .u8 W a0 len0 cap0 zs := by
    obtain ⟨fuel, hf⟩ := h0
    rcases open_ints Try.underlying22 Try.underlying5 (by kernel_rfl) hf with ⟨hcs, _⟩ | ⟨x, l, c, zs, hcs, _, hl, hm, hz, _, hcell, hwz⟩
    · simp [Value.cells] at hcs
      obtain ⟨rfl, rfl, rfl⟩ := hcs
      exact ⟨[], .inl ⟨rfl, rfl, rfl, rfl⟩⟩
    · simp [Value.cells] at hcs
      obtain ⟨rfl, rfl, rfl⟩ := hcs
      exact ⟨zs, .inr ⟨_, rfl, hl, hm, by simpa using hz, hcell, hwz⟩⟩
  clear hA0 hval0
  refine (walk a0 len0 cap0 z0 W w0).mono fun e W' ⟨he, bel⟩ => ?_
  subst he
  exact ⟨_, rfl, _, _, _, [], _, [], hW', trodAll_mk1 (shut_bool Try.underlying4 _), (trodAll_cons_mk (Below.trod laidOut (by kernel_rfl) (of_decide_eq_true (by kernel_rfl)) k0 bel lt0) trodAll_mk0), rfl, bel.frame _, fun h => by cases h⟩

theorem over : Rows.fnNightsInRow.holds Try.pinned (OpenSpec.ofChange Rows.fnNightsInSpec) :=
  OpenClaim.holds_of_wide 9 Try.f9 rfl rfl rfl rfl rfl rfl rfl ⟨rfl, rfl, rfl, rfl, rfl⟩ rfl rfl rfl rfl rfl (by kernel_rfl) Try.func9 (by kernel_rfl)
    (of_decide_eq_true (by kernel_rfl)) (by unfold Func.isWrapper; first | (rw [if_pos (by decide +kernel)]; kernel_rfl) | (rw [if_neg (by decide +kernel)]; exact ⟨rfl, rfl⟩))
    (fun os started H enc _ => lifted os started H enc)

end Go.Proofs.Ythkeopkehjkpeaa.fnNightsIn
namespace Go.Proofs.Ythkeopkehjkpeaa
/-- the statement -/
theorem fnNightsIn_holds : Rows.FnNightsInSaid := fnNightsIn.over
end Go.Proofs.Ythkeopkehjkpeaa
