/- For every code the law answers true, and the code reads afterwards as before: what is written of a fraction is read back. No condition. -/
import Derived.Test.YthmengblppdggabRows
import Derived.Test.YthmengblppdggabDrawT
import Derived.WalkKit
import Derived.ProofKit
import Derived.OpenShut
import Derived.ShutString
import Derived.ChangeOld
import Derived.Below
import Derived.Lib.SmallJoins
namespace Go.Proofs.Ythmengblppdggab.fnFormatFrac
open Go.ChangeShapes Go.WideShapes Go.ChangeAt Go.RowKit Go.Joins
open Go.ChangeMaps (open_string shut_string)
set_option linter.unusedVariables false

theorem own : ownKnob Try.prog.godebug = none := by kernel_rfl
theorem laidOut : laidOutB Try.prog = true := by kernel_rfl

set_option maxHeartbeats 2000000 in
theorem walk (a0 : Option Addr) (len0 cap0 : Nat) (z0 : List Int) (w : World) (w0 : IsRow .u8 w a0 len0 cap0 z0) :
    Calls Try.prog 3 #[.slice a0 len0 cap0] w fun e w' => e = .returned (.bool true) ∧ Below w.heap.size w w' := by
  by_cases big : (1048576 : Int) < (len0 : Int)
  · go_enter Try.func3, Try.ntmps3
    go_wp2
    go_ret
    exact ⟨rfl, Below.refl _ _⟩
  · go_enter Try.func3, Try.ntmps3
    go_wp2_with fail
    refine (drawFmt a0 len0 cap0 z0 _ (row_below w0 (by go_grown))).mono ?_
    rintro e u1 ⟨x, y, rfl, hb⟩
    have B1 : Below w.heap.size w u1 := bel_tr (by go_grown) hb
    clear hb big w0
    go_wp2_with fail
    refine (iFmt x y _).mono ?_
    rintro e u2 ⟨rfl, hb⟩
    have q2 := c2_below (c2_new u1 (.int .i64 x) (.int .i64 y) _) hb
    have B2 : Below w.heap.size w u2 := bel_tr (B1.alloc B1.size _) hb
    clear hb B1
    obtain ⟨f0, f1, f2, f3, f4⟩ := q2
    cases hv : Wsh.vfB x y with
    | false =>
      have he := fm_empty hv
      go_wp2_with fail
      refine (sFmt x y _).mono ?_
      rintro e u3 ⟨rfl, hb⟩
      have q3 := c2_below (⟨f0, f1, f2, f3, f4⟩ : Cell2 u2 (u1.heap.size) (.int .i64 x) (.int .i64 y)) hb
      have B3 : Below w.heap.size w u3 := bel_tr (by go_grown) hb
      clear hb f0 f1 f2 f3 f4 B2
      obtain ⟨f0, f1, f2, f3, f4⟩ := q3
      go_wp2_with fail
      refine (sFmt x y _).mono ?_
      rintro e u4 ⟨rfl, hb⟩
      have B4 : Below w.heap.size w u4 := bel_tr (by go_grown) hb
      clear hb
      go_wp2_with fail
      go_ret
      exact ⟨rfl, B4⟩
    | true =>
      have he := fm_some hv
      have HR := Lib.hid (fm_read hv)
      have HZ := Lib.hid (fm_size hv)
      go_wp2_with fail
      refine (sFmt x y _).mono ?_
      rintro e u3 ⟨rfl, hb⟩
      have q3 := c2_below (⟨f0, f1, f2, f3, f4⟩ : Cell2 u2 (u1.heap.size) (.int .i64 x) (.int .i64 y)) hb
      have B3 : Below w.heap.size w u3 := bel_tr (by go_grown) hb
      clear hb f0 f1 f2 f3 f4 B2
      obtain ⟨f0, f1, f2, f3, f4⟩ := q3
      go_wp2_with fail
      refine (iPar (fmF x y) _ HZ.out).mono ?_
      rintro e u4 ⟨rfl, hb⟩
      rw [HR.out.1, HR.out.2.1, HR.out.2.2]
      have q4 := c2_below (⟨f0, f1, f2, f3, f4⟩ : Cell2 u3 (u1.heap.size) (.int .i64 x) (.int .i64 y)) hb
      have B4 : Below w.heap.size w u4 := bel_tr (by go_grown) hb
      have S4 := B4.size
      clear hb f0 f1 f2 f3 f4 B3
      obtain ⟨f0, f1, f2, f3, f4⟩ := q4
      go_wp2_with fail
      go_ret
      exact ⟨rfl, by go_grown⟩

set_option maxRecDepth 100000 in
theorem lifted (os : Os) (started : os.Started) (H : Type) (enc : TypeId × Value → H) :
    ReturnsInHanded {} Try.checked os 3 .any (Rows.fnFormatFracSpec.pre6 enc Try.prog Try.f3 Rows.fnFormatFracRow.domain false) (Rows.fnFormatFracSpec.post enc Try.prog Try.f3 false true false false) := by
  refine returnsInHanded_of_change (C := Try.checked) own started (by kernel_rfl) Try.func3
    (ChangeSpec.witness6 (enc := enc) (C := Try.checked) false ⟨#[], #[.slice none 0 0], []⟩ 8 (by kernel_rfl) (by kernel_rfl) (by kernel_rfl) (by kernel_rfl)) ?_
  intro W base args ds gs before hval0 hW hcnd _
  have hval : ∀ (j : Nat) t v, Try.f3.params[j]? = some t → args[j]? = some v → Value.okWide Try.prog W .any base t v := hval0
  have hW' := hW
  obtain ⟨p, q, hA0, hV, rfl, hfz, hnd⟩ := hW
  have hA : DataW.TrodAll enc Try.prog W 0 (fun _ => true) true Try.f3.params.toList args.toList ds p := hA0
  rw [Try.params3] at hA hval
  obtain ⟨v0, vs0, e0, es0, p0, q0, hargs, rfl, rfl, h0, r0⟩ := trodAll_cons hA
  obtain ⟨rfl, rfl, rfl⟩ := trodAll_nil r0
  obtain rfl : args = #[v0] := by cases args; simp_all
  obtain ⟨rfl, rfl⟩ := trodVars_none hV
  have k0 := h0
  have lt0 : ∀ x ∈ p0, x.block < W.heap.size := by obtain ⟨m, hm⟩ := k0; exact DataW.trod_lt m _ _ _ hm
  obtain ⟨a0, len0, cap0, rfl⟩ := okWide_slice Try.underlying22 (hval 0 22 v0 rfl rfl)
  obtain ⟨z0, w0⟩ : ∃ zs, IsRow .u8 W a0 len0 cap0 zs := by
    obtain ⟨fuel, hf⟩ := h0
    rcases open_ints Try.underlying22 Try.underlying5 (by kernel_rfl) hf with ⟨hcs, _⟩ | ⟨x, l, c, zs, hcs, _, hl, hm, hz, _, hcell, hwz⟩
    · simp [Value.cells] at hcs
      obtain ⟨rfl, rfl, rfl⟩ := hcs
      exact ⟨[], .inl ⟨rfl, rfl, rfl, rfl⟩⟩
    · simp [Value.cells] at hcs
      obtain ⟨rfl, rfl, rfl⟩ := hcs
      exact ⟨zs, .inr ⟨_, rfl, hl, hm, by simpa using hz, hcell, hwz⟩⟩
  clear hA0 hval0
  refine (walk a0 len0 cap0 z0 W w0).mono fun e W' ⟨he, bel⟩ => ?_
  subst he
  exact ⟨_, rfl, _, _, _, [], _, [], hW', trodAll_mk1 (shut_bool Try.underlying4 _), (trodAll_cons_mk (Below.trod laidOut (by kernel_rfl) (of_decide_eq_true (by kernel_rfl)) k0 bel lt0) trodAll_mk0), rfl, bel.frame _, fun h => by cases h⟩

theorem over : Rows.fnFormatFracRow.holds Try.pinned (OpenSpec.ofChange Rows.fnFormatFracSpec) :=
  OpenClaim.holds_of_wide 3 Try.f3 rfl rfl rfl rfl rfl rfl rfl ⟨rfl, rfl, rfl, rfl, rfl⟩ rfl rfl rfl rfl rfl (by kernel_rfl) Try.func3 (by kernel_rfl)
    (of_decide_eq_true (by kernel_rfl)) (by unfold Func.isWrapper; first | (rw [if_pos (by decide +kernel)]; kernel_rfl) | (rw [if_neg (by decide +kernel)]; exact ⟨rfl, rfl⟩))
    (fun os started H enc _ => lifted os started H enc)

end Go.Proofs.Ythmengblppdggab.fnFormatFrac
namespace Go.Proofs.Ythmengblppdggab
/-- the statement -/
theorem fnFormatFrac_holds : Rows.FnFormatFracSaid := fnFormatFrac.over
end Go.Proofs.Ythmengblppdggab
