/- For every code the law answers true, and the code reads afterwards as before: what is read of a fraction is written back. No condition. -/
import Derived.Test.YthmengblppdggabRows
import Derived.Test.YthmengblppdggabDrawS
import Derived.WalkKit
import Derived.ProofKit
import Derived.OpenShut
import Derived.ShutString
import Derived.ChangeOld
import Derived.Below
import Derived.Lib.SmallJoins
namespace Go.Proofs.Ythmengblppdggab.fnParseFrac
open Go.ChangeShapes Go.WideShapes Go.ChangeAt Go.RowKit Go.Joins
open Go.ChangeMaps (open_string shut_string)
set_option linter.unusedVariables false

theorem own : ownKnob Try.prog.godebug = none := by kernel_rfl
theorem laidOut : laidOutB Try.prog = true := by kernel_rfl

set_option maxHeartbeats 2000000 in
theorem walk (a0 : Option Addr) (len0 cap0 : Nat) (z0 : List Int) (w : World) (w0 : IsRow .u8 w a0 len0 cap0 z0) :
    Calls Try.prog 4 #[.slice a0 len0 cap0] w fun e w' => e = .returned (.bool true) ∧ Below w.heap.size w w' := by
  by_cases big : (1048576 : Int) < (len0 : Int)
  · go_enter Try.func4, Try.ntmps4
    go_wp2
    go_ret
    exact ⟨rfl, Below.refl _ _⟩
  · go_enter Try.func4, Try.ntmps4
    go_wp2_with fail
    refine (drawParse a0 len0 cap0 z0 _ w0).mono ?_
    rintro e u1 ⟨s, rfl, hs, B1⟩
    clear big w0
    go_wp2_with fail
    refine (iPar s _ (by omega)).mono ?_
    rintro e u2 ⟨rfl, hb⟩
    have B2 := bel_tr B1 hb
    have S2 := B2.size
    clear hb B1
    cases hok : pok s with
    | false =>
      have HOK := Lib.hid hok
      clear hok
      go_wp2_with fail
      refine (sPar s _ (by omega)).mono ?_
      rintro e u3 ⟨rfl, hb⟩
      rw [HOK.out]
      have q3 := c2_below (c2_new u2 (.int .i64 (Wsh.qn false (pnum s))) (.int .i64 (Wsh.qn false (pden s))) _) hb
      have B3 : Below w.heap.size w u3 := bel_tr (B2.alloc S2 _) hb
      have S3 := B3.size
      clear hb B2
      obtain ⟨f0, f1, f2, f3, f4⟩ := q3
      go_wp2_with fail
      refine (leqF _ _ _).mono ?_
      rintro e u4 ⟨rfl, hb⟩
      have q4 := c2_below (c2_alloc (⟨f0, f1, f2, f3, f4⟩ : Cell2 u3 (u2.heap.size) (.int .i64 (Wsh.qn false (pnum s))) (.int .i64 (Wsh.qn false (pden s)))) _) hb
      have r4 := c2_below (c2_new u3 (.int .i64 (Wsh.qn false (pnum s))) (.int .i64 (Wsh.qn false (pden s))) _) hb
      have B4 : Below w.heap.size w u4 := bel_tr (B3.alloc S3 _) hb
      have S4 := B4.size
      clear hb B3 S3 f0 f1 f2 f3 f4
      obtain ⟨f0, f1, f2, f3, f4⟩ := q4
      obtain ⟨g0, g1, g2, g3, g4⟩ := r4
      go_wp2_with fail
      refine (leqF _ _ _).mono ?_
      rintro e u5 ⟨rfl, hb⟩
      have B5 := bel_tr B4 hb
      clear hb B4
      go_wp2_with fail
      go_ret
      exact ⟨rfl, B5⟩
    | true =>
      have HOK := Lib.hid hok
      have hv : Wsh.vfB (pnum s) (pden s) = true := by unfold pok at hok; rw [Bool.and_eq_true] at hok; exact hok.2
      have HF : Hid (fmF (Wsh.qn true (pnum s)) (Wsh.qn true (pden s)) = s) := by
        show fmF (pnum s) (pden s) = s
        rw [fm_yes hv, fr_back hok]
      have HV : Hid (Wsh.vfB (Wsh.qn true (pnum s)) (Wsh.qn true (pden s)) = true) := hv
      have HS : Hid ((s.toList == s.toList) = true) := Lib.hid (by simp)
      clear hok hv
      go_wp2_with fail
      refine (sPar s _ (by omega)).mono ?_
      rintro e u3 ⟨rfl, hb⟩
      rw [HOK.out]
      have q3 := c2_below (c2_new u2 (.int .i64 (Wsh.qn true (pnum s))) (.int .i64 (Wsh.qn true (pden s))) _) hb
      have B3 : Below w.heap.size w u3 := bel_tr (B2.alloc S2 _) hb
      have S3 := B3.size
      clear hb B2
      obtain ⟨f0, f1, f2, f3, f4⟩ := q3
      go_wp2_with fail
      refine (leqF _ _ _).mono ?_
      rintro e u4 ⟨rfl, hb⟩
      have q4 := c2_below (c2_alloc (⟨f0, f1, f2, f3, f4⟩ : Cell2 u3 (u2.heap.size) (.int .i64 (Wsh.qn true (pnum s))) (.int .i64 (Wsh.qn true (pden s)))) _) hb
      have r4 := c2_below (c2_new u3 (.int .i64 (Wsh.qn true (pnum s))) (.int .i64 (Wsh.qn true (pden s))) _) hb
      have B4 : Below w.heap.size w u4 := bel_tr (B3.alloc S3 _) hb
      have S4 := B4.size
      clear hb B3 S3 f0 f1 f2 f3 f4
      obtain ⟨f0, f1, f2, f3, f4⟩ := q4
      obtain ⟨g0, g1, g2, g3, g4⟩ := r4
      go_wp2_with fail
      refine (iFmt (Wsh.qn true (pnum s)) (Wsh.qn true (pden s)) _).mono ?_
      rintro e u5 ⟨rfl, hb⟩
      rw [HF.out]
      have q5 := c2_below (⟨f0, f1, f2, f3, f4⟩ : Cell2 u4 (u2.heap.size) (.int .i64 (Wsh.qn true (pnum s))) (.int .i64 (Wsh.qn true (pden s)))) hb
      have B5 := bel_tr B4 hb
      clear hb B4 f0 f1 f2 f3 f4 g0 g1 g2 g3 g4
      obtain ⟨f0, f1, f2, f3, f4⟩ := q5
      go_wp2_with fail
      refine (iValid (Wsh.qn true (pnum s)) (Wsh.qn true (pden s)) _).mono ?_
      rintro e u6 ⟨rfl, hb⟩
      rw [HV.out]
      have B6 := bel_tr B5 hb
      clear hb B5
      go_wp2_with fail
      go_ret
      exact ⟨rfl, B6⟩

set_option maxRecDepth 100000 in
theorem lifted (os : Os) (started : os.Started) (H : Type) (enc : TypeId × Value → H) :
    ReturnsInHanded {} Try.checked os 4 .any (Rows.fnParseFracSpec.pre6 enc Try.prog Try.f4 Rows.fnParseFracRow.domain false) (Rows.fnParseFracSpec.post enc Try.prog Try.f4 false true false false) := by
  refine returnsInHanded_of_change (C := Try.checked) own started (by kernel_rfl) Try.func4
    (ChangeSpec.witness6 (enc := enc) (C := Try.checked) false ⟨#[], #[.slice none 0 0], []⟩ 8 (by kernel_rfl) (by kernel_rfl) (by kernel_rfl) (by kernel_rfl)) ?_
  intro W base args ds gs before hval0 hW hcnd _
  have hval : ∀ (j : Nat) t v, Try.f4.params[j]? = some t → args[j]? = some v → Value.okWide Try.prog W .any base t v := hval0
  have hW' := hW
  obtain ⟨p, q, hA0, hV, rfl, hfz, hnd⟩ := hW
  have hA : DataW.TrodAll enc Try.prog W 0 (fun _ => true) true Try.f4.params.toList args.toList ds p := hA0
  rw [Try.params4] at hA hval
  obtain ⟨v0, vs0, e0, es0, p0, q0, hargs, rfl, rfl, h0, r0⟩ := trodAll_cons hA
  obtain ⟨rfl, rfl, rfl⟩ := trodAll_nil r0
  obtain rfl : args = #[v0] := by cases args; simp_all
  obtain ⟨rfl, rfl⟩ := trodVars_none hV
  have k0 := h0
  have lt0 : ∀ x ∈ p0, x.block < W.heap.size := by obtain ⟨m, hm⟩ := k0; exact DataW.trod_lt m _ _ _ hm
  obtain ⟨a0, len0, cap0, rfl⟩ := okWide_slice Try.underlying22 (hval 0 22 v0 rfl rfl)
  obtain ⟨z0, w0⟩ : ∃ zs, IsRow .u8 W a0 len0 cap0 zs := by
    obtain ⟨fuel, hf⟩ := h0
    rcases open_ints Try.underlying22 Try.underlying5 (by kernel_rfl) hf with ⟨hcs, _⟩ | ⟨x, l, c, zs, hcs, _, hl, hm, hz, _, hcell, hwz⟩
    · simp [Value.cells] at hcs
      obtain ⟨rfl, rfl, rfl⟩ := hcs
      exact ⟨[], .inl ⟨rfl, rfl, rfl, rfl⟩⟩
    · simp [Value.cells] at hcs
      obtain ⟨rfl, rfl, rfl⟩ := hcs
      exact ⟨zs, .inr ⟨_, rfl, hl, hm, by simpa using hz, hcell, hwz⟩⟩
  clear hA0 hval0
  refine (walk a0 len0 cap0 z0 W w0).mono fun e W' ⟨he, bel⟩ => ?_
  subst he
  exact ⟨_, rfl, _, _, _, [], _, [], hW', trodAll_mk1 (shut_bool Try.underlying4 _), (trodAll_cons_mk (Below.trod laidOut (by kernel_rfl) (of_decide_eq_true (by kernel_rfl)) k0 bel lt0) trodAll_mk0), rfl, bel.frame _, fun h => by cases h⟩

theorem over : Rows.fnParseFracRow.holds Try.pinned (OpenSpec.ofChange Rows.fnParseFracSpec) :=
  OpenClaim.holds_of_wide 4 Try.f4 rfl rfl rfl rfl rfl rfl rfl ⟨rfl, rfl, rfl, rfl, rfl⟩ rfl rfl rfl rfl rfl (by kernel_rfl) Try.func4 (by kernel_rfl)
    (of_decide_eq_true (by kernel_rfl)) (by unfold Func.isWrapper; first | (rw [if_pos (by decide +kernel)]; kernel_rfl) | (rw [if_neg (by decide +kernel)]; exact ⟨rfl, rfl⟩))
    (fun os started H enc _ => lifted os started H enc)

end Go.Proofs.Ythmengblppdggab.fnParseFrac
namespace Go.Proofs.Ythmengblppdggab
/-- the statement -/
theorem fnParseFrac_holds : Rows.FnParseFracSaid := fnParseFrac.over
end Go.Proofs.Ythmengblppdggab
