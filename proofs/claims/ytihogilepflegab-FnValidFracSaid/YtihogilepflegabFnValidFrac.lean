/- For every code the law answers true, and the code reads afterwards as before: 1 less a valid fraction is valid, and both are 1 together. No condition. -/
import Derived.Test.YtihogilepflegabRows
import Derived.Test.YtihogilepflegabKnown
import Derived.Test.YtihogilepflegabPlainB
import Derived.WalkKit
import Derived.ProofKit
import Derived.OpenShut
import Derived.ShutString
import Derived.ChangeOld
import Derived.Below
import Derived.Lib.SmallJoins
namespace Go.Proofs.Ytihogilepflegab.fnValidFrac
open Go.ChangeShapes Go.WideShapes Go.ChangeAt Go.RowKit Go.Joins
open Go.ChangeMaps (open_string shut_string)
set_option linter.unusedVariables false

theorem own : ownKnob Try.prog.godebug = none := by kernel_rfl
theorem laidOut : laidOutB Try.prog = true := by kernel_rfl

set_option maxHeartbeats 2000000 in
theorem walk (a0 : Option Addr) (len0 cap0 : Nat) (z0 : List Int) (w : World) (w0 : IsRow .u8 w a0 len0 cap0 z0) :
    Calls Try.prog 3 #[.slice a0 len0 cap0] w fun e w' => e = .returned (.bool true) ∧ Below w.heap.size w w' := by
  by_cases big : (1048576 : Int) < (len0 : Int)
  · go_enter Try.func3, Try.ntmps3
    go_wp2
    go_ret
    exact ⟨rfl, Below.refl _ _⟩
  · go_enter Try.func3, Try.ntmps3
    go_wp2_with fail
    refine (drawValid a0 len0 cap0 z0 _ w0).mono ?_
    rintro e u1 ⟨x, y, rfl, hb⟩
    have B1 : Below w.heap.size w u1 := bel_tr (by go_grown) hb
    have S1 := B1.size
    clear hb
    go_wp2_with fail
    refine (iValid x y _).mono ?_
    rintro e u2 ⟨rfl, hb⟩
    have B2 : Below w.heap.size w u2 := bel_tr (by go_grown) hb
    have S2 := B2.size
    have qf := c2_below (c2_new u1 (.int .i64 x) (.int .i64 y) _) hb
    clear hb B1 S1
    obtain ⟨f0, f1, f2, f3, f4⟩ := qf
    cases hv : Wsh.vfB x y with
    | false =>
      go_wp2_with fail
      refine (sValid x y _).mono ?_
      rintro e u3 ⟨rfl, hb⟩
      have B3 : Below w.heap.size w u3 := bel_tr (by go_grown) hb
      have S3 := B3.size
      have qf := c2_below (⟨f0, f1, f2, f3, f4⟩ : Cell2 u2 (u1.heap.size) (.int .i64 x) (.int .i64 y)) hb
      clear hb f0 f1 f2 f3 f4 B2 S2
      obtain ⟨f0, f1, f2, f3, f4⟩ := qf
      go_wp2_with fail
      refine (sValid x y _).mono ?_
      rintro e u4 ⟨rfl, hb⟩
      have B4 : Below w.heap.size w u4 := bel_tr (by go_grown) hb
      have S4 := B4.size
      have qf := c2_below (⟨f0, f1, f2, f3, f4⟩ : Cell2 u3 (u1.heap.size) (.int .i64 x) (.int .i64 y)) hb
      clear hb f0 f1 f2 f3 f4 B3 S3
      obtain ⟨f0, f1, f2, f3, f4⟩ := qf
      go_wp2_with fail
      go_ret
      exact ⟨rfl, by go_grown⟩
    | true =>
      obtain ⟨hg, r1, r2, r3⟩ := Wsh.one_less x y hv
      have RR := Lib.hid (And.intro r1 (And.intro r2 r3))
      have GG := Lib.hid hg
      clear r1 r2 r3
      go_wp2_with fail
      refine (sValid x y _).mono ?_
      rintro e u3 ⟨rfl, hb⟩
      have B3 : Below w.heap.size w u3 := bel_tr (by go_grown) hb
      have S3 := B3.size
      have qf := c2_below (⟨f0, f1, f2, f3, f4⟩ : Cell2 u2 (u1.heap.size) (.int .i64 x) (.int .i64 y)) hb
      clear hb f0 f1 f2 f3 f4 B2 S2
      obtain ⟨f0, f1, f2, f3, f4⟩ := qf
      go_wp2_with fail
      refine (iSub_is 1 1 x y (y - x) y _ (by decide) hv RR.out.2.2 RR.out.1 RR.out.2.1).mono ?_
      rintro e u4 ⟨rfl, hb⟩
      have B4 : Below w.heap.size w u4 := bel_tr (by go_grown) hb
      have S4 := B4.size
      have qf := c2_below (⟨f0, f1, f2, f3, f4⟩ : Cell2 u3 (u1.heap.size) (.int .i64 x) (.int .i64 y)) hb
      clear hb f0 f1 f2 f3 f4 B3 S3
      obtain ⟨f0, f1, f2, f3, f4⟩ := qf
      go_wp2_with fail
      refine (iAdd_is x y (y - x) y 1 1 _ hv hg (Wsh.one_more x y hv).2.2 (Wsh.one_more x y hv).1 (Wsh.one_more x y hv).2.1).mono ?_
      rintro e u5 ⟨rfl, hb⟩
      have B5 : Below w.heap.size w u5 := bel_tr (by go_grown) hb
      have S5 := B5.size
      have qf := c2_below (c2_alloc (⟨f0, f1, f2, f3, f4⟩ : Cell2 u4 (u1.heap.size) (.int .i64 x) (.int .i64 y)) _) hb
      have qg := c2_below (c2_new u4 (.int .i64 (y - x)) (.int .i64 y) _) hb
      clear hb f0 f1 f2 f3 f4 B4 S4
      obtain ⟨f0, f1, f2, f3, f4⟩ := qf
      obtain ⟨g0, g1, g2, g3, g4⟩ := qg
      go_wp2_with fail
      refine (iValid (y - x) y _).mono ?_
      rintro e u6 ⟨rfl, hb⟩
      have B6 : Below w.heap.size w u6 := bel_tr (by go_grown) hb
      have S6 := B6.size
      have qf := c2_below (c2_alloc (⟨f0, f1, f2, f3, f4⟩ : Cell2 u5 (u1.heap.size) (.int .i64 x) (.int .i64 y)) _) hb
      have qg := c2_below (c2_alloc (⟨g0, g1, g2, g3, g4⟩ : Cell2 u5 (u4.heap.size) (.int .i64 (y - x)) (.int .i64 y)) _) hb
      have qh := c2_below (c2_new u5 (.int .i64 1) (.int .i64 1) _) hb
      clear hb f0 f1 f2 f3 f4 g0 g1 g2 g3 g4 B5 S5
      obtain ⟨f0, f1, f2, f3, f4⟩ := qf
      obtain ⟨g0, g1, g2, g3, g4⟩ := qg
      obtain ⟨h0, h1, h2, h3, h4⟩ := qh
      go_wp2_with fail
      go_ret
      exact ⟨rfl, by go_grown⟩

set_option maxRecDepth 100000 in
theorem lifted (os : Os) (started : os.Started) (H : Type) (enc : TypeId × Value → H) :
    ReturnsInHanded {} Try.checked os 3 .any (Rows.fnValidFracSpec.pre6 enc Try.prog Try.f3 Rows.fnValidFracRow.domain false) (Rows.fnValidFracSpec.post enc Try.prog Try.f3 false true false false) := by
  refine returnsInHanded_of_change (C := Try.checked) own started (by kernel_rfl) Try.func3
    (ChangeSpec.witness6 (enc := enc) (C := Try.checked) false ⟨#[], #[.slice none 0 0], []⟩ 8 (by kernel_rfl) (by kernel_rfl) (by kernel_rfl) (by kernel_rfl)) ?_
  intro W base args ds gs before hval0 hW hcnd _
  have hval : ∀ (j : Nat) t v, Try.f3.params[j]? = some t → args[j]? = some v → Value.okWide Try.prog W .any base t v := hval0
  have hW' := hW
  obtain ⟨p, q, hA0, hV, rfl, hfz, hnd⟩ := hW
  have hA : DataW.TrodAll enc Try.prog W 0 (fun _ => true) true Try.f3.params.toList args.toList ds p := hA0
  rw [Try.params3] at hA hval
  obtain ⟨v0, vs0, e0, es0, p0, q0, hargs, rfl, rfl, h0, r0⟩ := trodAll_cons hA
  obtain ⟨rfl, rfl, rfl⟩ := trodAll_nil r0
  obtain rfl : args = #[v0] := by cases args; simp_all
  obtain ⟨rfl, rfl⟩ := trodVars_none hV
  have k0 := h0
  have lt0 : ∀ x ∈ p0, x.block < W.heap.size := by obtain ⟨m, hm⟩ := k0; exact DataW.trod_lt m _ _ _ hm
  obtain ⟨a0, len0, cap0, rfl⟩ := okWide_slice Try.underlying22 (hval 0 22 v0 rfl rfl)
  obtain ⟨z0, w0⟩ : ∃ zs, IsRow .u8 W a0 len0 cap0 zs := by
    obtain ⟨fuel, hf⟩ := h0
    rcases open_ints Try.underlying22 Try.underlying5 (by kernel_rfl) hf with ⟨hcs, _⟩ | ⟨x, l, c, zs, hcs, _, hl, hm, hz, _, hcell, hwz⟩
    · simp [Value.cells] at hcs
      obtain ⟨rfl, rfl, rfl⟩ := hcs
      exact ⟨[], .inl ⟨rfl, rfl, rfl, rfl⟩⟩
    · simp [Value.cells] at hcs
      obtain ⟨rfl, rfl, rfl⟩ := hcs
      exact ⟨zs, .inr ⟨_, rfl, hl, hm, by simpa using hz, hcell, hwz⟩⟩
  clear hA0 hval0
  refine (walk a0 len0 cap0 z0 W w0).mono fun e W' ⟨he, bel⟩ => ?_
  subst he
  exact ⟨_, rfl, _, _, _, [], _, [], hW', trodAll_mk1 (shut_bool Try.underlying4 _), (trodAll_cons_mk (Below.trod laidOut (by kernel_rfl) (of_decide_eq_true (by kernel_rfl)) k0 bel lt0) trodAll_mk0), rfl, bel.frame _, fun h => by cases h⟩

theorem over : Rows.fnValidFracRow.holds Try.pinned (OpenSpec.ofChange Rows.fnValidFracSpec) :=
  OpenClaim.holds_of_wide 3 Try.f3 rfl rfl rfl rfl rfl rfl rfl ⟨rfl, rfl, rfl, rfl, rfl⟩ rfl rfl rfl rfl rfl (by kernel_rfl) Try.func3 (by kernel_rfl)
    (of_decide_eq_true (by kernel_rfl)) (by unfold Func.isWrapper; first | (rw [if_pos (by decide +kernel)]; kernel_rfl) | (rw [if_neg (by decide +kernel)]; exact ⟨rfl, rfl⟩))
    (fun os started H enc _ => lifted os started H enc)

end Go.Proofs.Ytihogilepflegab.fnValidFrac
namespace Go.Proofs.Ytihogilepflegab
/-- the statement -/
theorem fnValidFrac_holds : Rows.FnValidFracSaid := fnValidFrac.over
end Go.Proofs.Ytihogilepflegab
