/- For every input the law answers true, and its argument reads afterwards as before: hours add up. No condition. -/
import Derived.Test.YthkeopkehjkpeaaRows
import Derived.Test.YthkeopkehjkpeaaDrawTm
import Derived.Test.YthkeopkehjkpeaaTurnL
import Derived.WalkKit
import Derived.ProofKit
import Derived.OpenShut
import Derived.ShutString
import Derived.ChangeOld
import Derived.Below
import Derived.Lib.SmallJoins
namespace Go.Proofs.Ythkeopkehjkpeaa.fnHoursIn
open Go.ChangeShapes Go.WideShapes Go.ChangeAt Go.RowKit Go.Joins
open Go.ChangeMaps (open_string shut_string)
set_option linter.unusedVariables false

theorem own : ownKnob Try.prog.godebug = none := by kernel_rfl
theorem laidOut : laidOutB Try.prog = true := by kernel_rfl

set_option maxRecDepth 100000 in
set_option maxHeartbeats 6000000 in
theorem walk (a0 : Option Addr) (len0 cap0 : Nat) (z0 : List Int) (w : World) (w0 : IsRow .u8 w a0 len0 cap0 z0) :
    Calls Try.prog 8 #[.slice a0 len0 cap0] w fun e w' => e = .returned (.bool true) ∧ Below w.heap.size w w' := by
  by_cases big : (1048576 : Int) < (len0 : Int)
  · go_enter Try.func8, Try.ntmps8
    go_wp2
    go_ret
    exact ⟨rfl, Below.refl _ _⟩
  go_enter Try.func8, Try.ntmps8
  go_wp2_with fail
  refine (drawHoursIn a0 len0 cap0 z0 _ w0).mono ?_
  rintro e u1 ⟨b, cp, xs, o, f, t, rfl, hl6, hlc, hi, hz, o0, o1, f0, f1, t0, t1, B⟩
  clear w0 big
  have n1 : xs.length ≤ 1048576 := by omega
  have HI := Lib.hid hi
  have HZ := Lib.hid hz
  have D := Below.refl u1.heap.size u1
  clear hi hz
  by_cases hv : hoursV xs o f t = -1
  · have HVV := Lib.hid hv
    have CIHoursIn : ∀ W, Below u1.heap.size u1 W → Calls Try.prog 20 #[.slice b xs.length cp, .int .i64 o, .int .i64 f, .int .i64 t] W fun e w' => e = .returned (.int .i64 (-1)) ∧ Below W.heap.size W w' := fun W hW => by
      have := iHoursIn b cp xs o f t W (tn_below HI.out hW) n1 hlc (wf_small (by omega)) (wf_small (by omega)) (wf_small (by omega))
      rw [HVV.out] at this; exact this
    have CSHoursIn : ∀ W, Below u1.heap.size u1 W → Calls Try.prog 32 #[.slice b xs.length cp, .int .i64 o, .int .i64 f, .int .i64 t] W fun e w' => e = .returned (.int .i64 (-1)) ∧ Below W.heap.size W w' := fun W hW => by
      have := sHoursIn b cp xs o f t W (tn_below HI.out hW) n1
      rw [HVV.out] at this; exact this
    clear hv
    go_wp2_with fail
    refine (CIHoursIn _ D).mono ?_
    rintro e u ⟨rfl, C⟩
    replace B := bel_tr B C
    replace D := bel_tr D C
    clear C
    go_wp2_with fail
    refine (CSHoursIn _ D).mono ?_
    rintro e u ⟨rfl, C⟩
    replace B := bel_tr B C
    replace D := bel_tr D C
    clear C
    go_wp2_with fail
    refine (CSHoursIn _ D).mono ?_
    rintro e u ⟨rfl, C⟩
    replace B := bel_tr B C
    replace D := bel_tr D C
    clear C
    go_wp2_with fail
    go_ret
    exact ⟨rfl, B⟩
  · obtain ⟨ok, a0, a1, a2⟩ := hours_yes hv
    obtain ⟨l1, l24, hok, s0, s1⟩ := vt_is ok
    obtain ⟨v, hvv⟩ : ∃ v, hoursV xs o f t = v := ⟨_, rfl⟩
    obtain ⟨p, hpp⟩ : ∃ p, sumT xs = p := ⟨_, rfl⟩
    have hmid0 : f ≤ (f + t) / 2 := by omega
    have hmid1 : (f + t) / 2 ≤ t := by omega
    have h2 := hours_two ok (o := o) a0 hmid0 hmid1 a2
    rw [hvv] at h2
    have HPER : Hid (f + p ≤ 5000 → hoursV xs o f (f + p) = ownS xs o) := fun hle => by rw [← hpp] at hle ⊢; exact hours_per ok a0 hle
    rw [hpp] at s0 s1
    have HP := Lib.hid ((per_val ok).trans hpp)
    have v0 : 0 ≤ v ∧ v ≤ 5000 := by
      rw [← hvv, hours_val ok a0 a1 a2]
      have := cnt_bd (fun n => whoM xs n == o) f (t - f).toNat
      omega
    have hx0 : 0 ≤ hoursV xs o f ((f + t) / 2) ∧ hoursV xs o f ((f + t) / 2) ≤ 5000 := by
      rw [hours_val ok a0 hmid0 (by omega)]
      have := cnt_bd (fun n => whoM xs n == o) f ((f + t) / 2 - f).toNat
      omega
    obtain ⟨x1, hx1⟩ : ∃ x1, hoursV xs o f ((f + t) / 2) = x1 := ⟨_, rfl⟩
    obtain ⟨x2, hx2⟩ : ∃ x2, hoursV xs o ((f + t) / 2) t = x2 := ⟨_, rfl⟩
    obtain ⟨m, hm⟩ : ∃ m, (f + t) / 2 = m := ⟨_, rfl⟩
    rw [hm] at hmid0 hmid1 hx1 hx2 hx0 h2
    rw [hx1] at hx0 h2
    rw [hx2] at h2
    have CIHoursIn : ∀ W, Below u1.heap.size u1 W → Calls Try.prog 20 #[.slice b xs.length cp, .int .i64 o, .int .i64 f, .int .i64 t] W fun e w' => e = .returned (.int .i64 v) ∧ Below W.heap.size W w' := fun W hW => by
      have := iHoursIn b cp xs o f t W (tn_below HI.out hW) n1 hlc (wf_small (by omega)) (wf_small (by omega)) (wf_small (by omega))
      rw [hvv] at this; exact this
    have CSHoursIn : ∀ W, Below u1.heap.size u1 W → Calls Try.prog 32 #[.slice b xs.length cp, .int .i64 o, .int .i64 f, .int .i64 t] W fun e w' => e = .returned (.int .i64 v) ∧ Below W.heap.size W w' := fun W hW => by
      have := sHoursIn b cp xs o f t W (tn_below HI.out hW) n1
      rw [hvv] at this; exact this
    have CH : ∀ x y V, hoursV xs o x y = V → -1000000 ≤ x ∧ x ≤ 1000000 → -1000000 ≤ y ∧ y ≤ 1000000 → ∀ W, Below u1.heap.size u1 W → Calls Try.prog 20 #[.slice b xs.length cp, .int .i64 o, .int .i64 x, .int .i64 y] W fun e w' => e = .returned (.int .i64 V) ∧ Below W.heap.size W w' := fun x y V hV bx bp W hW => by
      have := iHoursIn b cp xs o x y W (tn_below HI.out hW) n1 hlc (wf_small (by omega)) (wf_small bx) (wf_small bp)
      rw [hV] at this; exact this
    have C1 := CH f m x1 hx1 (by omega) (by omega)
    have C2 := CH m t x2 hx2 (by omega) (by omega)
    have C3 := fun hle => CH f (f + p) (ownS xs o) (HPER.out hle) (by omega) (by omega)
    have CP : ∀ W, Below u1.heap.size u1 W → Calls Try.prog 17 #[.slice b xs.length cp] W fun e w' => e = .returned (.int .i64 p) ∧ Below W.heap.size W w' := fun W hW => by
      have := iPeriodOf b cp xs W (tn_below HI.out hW) n1 hlc
      rw [HP.out] at this; exact this
    have hbd : ∀ k, k ≤ xs.length → 0 ≤ ownS (xs.take k) o ∧ ownS (xs.take k) o ≤ 336 * (k : Int) := by
      intro k
      induction k with
      | zero => intro _; exact ⟨Int.le_refl _, Int.le_refl _⟩
      | succ k ih =>
        intro hk
        have i := ih (by omega)
        have q := (okT_iff xs k).1 (hok k (by omega))
        rw [ownS_succ (by omega)]
        split <;> omega
    have HBD := Lib.hid hbd
    have hcl : IsTn u1 b xs := HI.out
    rcases hcl with rfl | ⟨g, oo, rfl, hc⟩
    · simp at l1
    have HC := Lib.hid hc
    have vf : decide (v < 0) = false := decide_eq_false (by omega)
    have wr1 : IntKind.i64.wrap (f + t) = f + t := wrap_small (by omega)
    have wr2 : IntKind.i64.wrap (x1 + x2) = x1 + x2 := wrap_small (by omega)
    have h2e : x1 + x2 = v := h2
    have ft0 : 0 ≤ f + t := by omega
    clear hv hvv hpp hx1 hx2 hc CH hok hbd h2
    go_wp2_with fail
    refine (CIHoursIn _ D).mono ?_
    rintro e u ⟨rfl, C⟩
    replace B := bel_tr B C
    replace D := bel_tr D C
    clear C
    go_wp2_with fail
    refine (CSHoursIn _ D).mono ?_
    rintro e u ⟨rfl, C⟩
    replace B := bel_tr B C
    replace D := bel_tr D C
    clear C
    go_wp2_with fail
    clear CIHoursIn CSHoursIn
    go_loopw [9, 10] (fun q i wr => ∃ k : Nat, k ≤ xs.length ∧ i = .int .i64 k ∧ q = .int .i64 (ownS (xs.take k) o) ∧ Below w.heap.size w wr ∧ Below u1.heap.size u1 wr) (fun _ i _ => xs.length - (intOf i).toNat)
    case atStart => exact ⟨0, Nat.zero_le _, rfl, rfl, B, D⟩
    case round =>
      clear B D
      obtain ⟨k, hk, rfl, rfl, B, D⟩ := hrel
      have hb := HBD.out k hk
      by_cases hlt : k < xs.length
      · obtain ⟨c0, c1⟩ := tn_at HC.out D hlt
        have hs := ownS_succ hlt o
        have hb2 := HBD.out (k + 1) hlt
        rw [hs] at hb2
        generalize xs.getD k tn0 = hh at c0 c1 hs hb2
        obtain ⟨x, y⟩ := hh
        dsimp only at c0 c1 hs hb2
        generalize ownS (xs.take k) o = s at hs hb hb2
        by_cases e : x = o
        · rw [if_pos e] at hs hb2
          have HSS := Lib.hid hs
          have wr3 : IntKind.i64.wrap (s + y) = s + y := wrap_small (by omega)
          subst e
          clear hs
          go_wp2_with fail
          go_roundw
          case rel => exact ⟨k + 1, by omega, by go_num, by rw [HSS.out], B, D⟩
          case measure => simp [intOf]; omega
        · rw [if_neg e, Int.add_zero] at hs
          have HSS := Lib.hid hs
          have e7 : (x == o) = false := by simpa using e
          clear hs e hb2
          go_wp2_with fail
          go_roundw
          case rel => exact ⟨k + 1, by omega, by go_num, by rw [HSS.out], B, D⟩
          case measure => simp [intOf]; omega
      · obtain rfl : k = xs.length := by omega
        rw [List.take_of_length_le (Nat.le_refl _)]
        rw [List.take_of_length_le (Nat.le_refl _)] at hb
        generalize ownS xs o = s at C3 hb
        subst h2e
        by_cases hle : f + p ≤ 5000
        · have C3' := C3 hle
          have e5 : decide (5000 < f + p) = false := decide_eq_false (by omega)
          have wr4 : IntKind.i64.wrap (f + p) = f + p := wrap_small (by omega)
          clear C3 HPER HBD
          go_wp2_with fail
          refine (CP _ D).mono ?_
          rintro e u ⟨rfl, C⟩
          replace B := bel_tr B C
          replace D := bel_tr D C
          clear C
          go_wp2_with fail
          refine (C1 _ D).mono ?_
          rintro e u ⟨rfl, C⟩
          replace B := bel_tr B C
          replace D := bel_tr D C
          clear C
          go_wp2_with fail
          refine (C2 _ D).mono ?_
          rintro e u ⟨rfl, C⟩
          replace B := bel_tr B C
          replace D := bel_tr D C
          clear C
          go_wp2_with fail
          refine (C3' _ D).mono ?_
          rintro e u ⟨rfl, C⟩
          replace B := bel_tr B C
          clear C
          go_wp2_with fail
          go_ret
          exact ⟨rfl, B⟩
        · have e5 : decide (5000 < f + p) = true := decide_eq_true (by omega)
          have wr4 : IntKind.i64.wrap (f + p) = f + p := wrap_small (by omega)
          clear C3 HPER HBD hle
          go_wp2_with fail
          refine (CP _ D).mono ?_
          rintro e u ⟨rfl, C⟩
          replace B := bel_tr B C
          replace D := bel_tr D C
          clear C
          go_wp2_with fail
          refine (C1 _ D).mono ?_
          rintro e u ⟨rfl, C⟩
          replace B := bel_tr B C
          replace D := bel_tr D C
          clear C
          go_wp2_with fail
          refine (C2 _ D).mono ?_
          rintro e u ⟨rfl, C⟩
          replace B := bel_tr B C
          clear C
          go_wp2_with fail
          go_ret
          exact ⟨rfl, B⟩

set_option maxRecDepth 100000 in
theorem lifted (os : Os) (started : os.Started) (H : Type) (enc : TypeId × Value → H) :
    ReturnsInHanded {} Try.checked os 8 .any (Rows.fnHoursInSpec.pre6 enc Try.prog Try.f8 Rows.fnHoursInRow.domain false) (Rows.fnHoursInSpec.post enc Try.prog Try.f8 false true false false) := by
  refine returnsInHanded_of_change (C := Try.checked) own started (by kernel_rfl) Try.func8
    (ChangeSpec.witness6 (enc := enc) (C := Try.checked) false ⟨#[], #[.slice none 0 0], []⟩ 8 (by kernel_rfl) (by kernel_rfl) (by kernel_rfl) (by kernel_rfl)) ?_
  intro W base args ds gs before hval0 hW hcnd _
  have hval : ∀ (j : Nat) t v, Try.f8.params[j]? = some t → args[j]? = some v → Value.okWide Try.prog W .any base t v := hval0
  have hW' := hW
  obtain ⟨p, q, hA0, hV, rfl, hfz, hnd⟩ := hW
  have hA : DataW.TrodAll enc Try.prog W 0 (fun _ => true) true Try.f8.params.toList args.toList ds p := hA0
  rw [Try.params8] at hA hval
  obtain ⟨v0, vs0, e0, es0, p0, q0, hargs, rfl, rfl, h0, r0⟩ := trodAll_cons hA
  obtain ⟨rfl, rfl, rfl⟩ := trodAll_nil r0
  obtain rfl : args = #[v0] := by cases args; simp_all
  obtain ⟨rfl, rfl⟩ := trodVars_none hV
  have k0 := h0
  have lt0 : ∀ x ∈ p0, x.block < W.heap.size := by obtain ⟨m, hm⟩ := k0; exact DataW.trod_lt m _ _ _ hm
  obtain ⟨a0, len0, cap0, rfl⟩ := okWide_slice Try.underlying22 (hval 0 22 v0 rfl rfl)
  obtain ⟨z0, w0⟩ : ∃ zs, IsRow .u8 W a0 len0 cap0 zs := by
    obtain ⟨fuel, hf⟩ := h0
    rcases open_ints Try.underlying22 Try.underlying5 (by kernel_rfl) hf with ⟨hcs, _⟩ | ⟨x, l, c, zs, hcs, _, hl, hm, hz, _, hcell, hwz⟩
    · simp [Value.cells] at hcs
      obtain ⟨rfl, rfl, rfl⟩ := hcs
      exact ⟨[], .inl ⟨rfl, rfl, rfl, rfl⟩⟩
    · simp [Value.cells] at hcs
      obtain ⟨rfl, rfl, rfl⟩ := hcs
      exact ⟨zs, .inr ⟨_, rfl, hl, hm, by simpa using hz, hcell, hwz⟩⟩
  clear hA0 hval0
  refine (walk a0 len0 cap0 z0 W w0).mono fun e W' ⟨he, bel⟩ => ?_
  subst he
  exact ⟨_, rfl, _, _, _, [], _, [], hW', trodAll_mk1 (shut_bool Try.underlying4 _), (trodAll_cons_mk (Below.trod laidOut (by kernel_rfl) (of_decide_eq_true (by kernel_rfl)) k0 bel lt0) trodAll_mk0), rfl, bel.frame _, fun h => by cases h⟩

theorem over : Rows.fnHoursInRow.holds Try.pinned (OpenSpec.ofChange Rows.fnHoursInSpec) :=
  OpenClaim.holds_of_wide 8 Try.f8 rfl rfl rfl rfl rfl rfl rfl ⟨rfl, rfl, rfl, rfl, rfl⟩ rfl rfl rfl rfl rfl (by kernel_rfl) Try.func8 (by kernel_rfl)
    (of_decide_eq_true (by kernel_rfl)) (by unfold Func.isWrapper; first | (rw [if_pos (by decide +kernel)]; kernel_rfl) | (rw [if_neg (by decide +kernel)]; exact ⟨rfl, rfl⟩))
    (fun os started H enc _ => lifted os started H enc)

end Go.Proofs.Ythkeopkehjkpeaa.fnHoursIn
namespace Go.Proofs.Ythkeopkehjkpeaa
/-- the statement -/
theorem fnHoursIn_holds : Rows.FnHoursInSaid := fnHoursIn.over
end Go.Proofs.Ythkeopkehjkpeaa
