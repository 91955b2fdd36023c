/- For every code the law answers true, and the code reads afterwards as before: PartOf a fraction and of 1 less it are together n, or 1 less. No condition. -/
import Derived.Test.YtihogilepflegabRows
import Derived.Test.YtihogilepflegabKnownB
import Derived.WalkKit
import Derived.ProofKit
import Derived.OpenShut
import Derived.ShutString
import Derived.ChangeOld
import Derived.Below
import Derived.Lib.SmallJoins
namespace Go.Proofs.Ytihogilepflegab.fnPartOf
open Go.ChangeShapes Go.WideShapes Go.ChangeAt Go.RowKit Go.Joins
open Go.ChangeMaps (open_string shut_string)
set_option linter.unusedVariables false

theorem own : ownKnob Try.prog.godebug = none := by kernel_rfl
theorem laidOut : laidOutB Try.prog = true := by kernel_rfl

set_option maxHeartbeats 2000000 in
theorem walk (a0 : Option Addr) (len0 cap0 : Nat) (z0 : List Int) (w : World) (w0 : IsRow .u8 w a0 len0 cap0 z0) :
    Calls Try.prog 9 #[.slice a0 len0 cap0] w fun e w' => e = .returned (.bool true) ∧ Below w.heap.size w w' := by
  by_cases big : (1048576 : Int) < (len0 : Int)
  · go_enter Try.func9, Try.ntmps9
    go_wp2
    go_ret
    exact ⟨rfl, Below.refl _ _⟩
  · go_enter Try.func9, Try.ntmps9
    go_wp2_with fail
    refine (drawPart a0 len0 cap0 z0 _ w0).mono ?_
    rintro e u1 ⟨n, x, y, rfl, hb⟩
    have B1 : Below w.heap.size w u1 := bel_tr (by go_grown) hb
    have S1 := B1.size
    clear hb
    by_cases hv : (0 ≤ n ∧ n ≤ 1000000) ∧ Wsh.vfB x y = true
    · obtain ⟨⟨n0, n1⟩, hv⟩ := hv
      have kv := (Wsh.vfB_iff _ _).1 hv
      obtain ⟨k1, k2, k3, k4, k5⟩ := kv
      obtain ⟨q1, q2, q3⟩ := Wsh.parts n x y (by omega)
      have o0 : 0 ≤ n * x / y := Int.ediv_nonneg (Int.mul_nonneg n0 k3) (by omega)
      have r0 : 0 ≤ n * (y - x) / y := Int.ediv_nonneg (Int.mul_nonneg n0 (by omega)) (by omega)
      have m0 : 0 ≤ n * x := Int.mul_nonneg n0 k3
      have m1 : n * x ≤ 10000000000 := Wsh.mul_bd2 n0 n1 k3 (by omega)
      obtain ⟨hg, s1, s2, s3⟩ := Wsh.one_less x y hv
      have RR := Lib.hid (And.intro s1 (And.intro s2 s3))
      have HP := Lib.hid (Wsh.partI_yes (n := n) ⟨n0, n1⟩ hv)
      have HR := Lib.hid (Wsh.partI_yes (n := n) ⟨n0, n1⟩ hg)
      obtain ⟨o, ho⟩ : ∃ o, n * x / y = o := ⟨_, rfl⟩
      obtain ⟨r, hr⟩ : ∃ r, n * (y - x) / y = r := ⟨_, rfl⟩
      rw [ho] at o0
      rw [hr] at r0
      rw [ho, hr] at q1 q2 q3
      have HO := Lib.hid (HP.out.trans ho)
      have HS := Lib.hid (HR.out.trans hr)
      have HV := Lib.hid hv
      clear hv hg s1 s2 s3 HP HR ho hr k5
      by_cases hq : n * x % y = 0
      · have e1 : (o + r == n) = true := by simp; exact q3.2 hq
        have e2 : (n * x % y == 0) = true := by simp [hq]
        clear q3 hq
        go_wp2_with fail
        refine (iPart_is n x y o _ HO.out).mono ?_
        rintro e u2 ⟨rfl, hb⟩
        have B2 : Below w.heap.size w u2 := bel_tr (by go_grown) hb
        have S2 := B2.size
        have qf := c2_below (c2_new u1 (.int .i64 x) (.int .i64 y) _) hb
        clear hb B1 S1
        obtain ⟨f0, f1, f2, f3, f4⟩ := qf
        go_wp2_with fail
        refine (sPart_is n x y o _ HO.out).mono ?_
        rintro e u3 ⟨rfl, hb⟩
        have B3 : Below w.heap.size w u3 := bel_tr (by go_grown) hb
        have S3 := B3.size
        have qf := c2_below (⟨f0, f1, f2, f3, f4⟩ : Cell2 u2 (u1.heap.size) (.int .i64 x) (.int .i64 y)) hb
        clear hb f0 f1 f2 f3 f4 B2 S2
        obtain ⟨f0, f1, f2, f3, f4⟩ := qf
        go_wp2_with fail
        refine (iSub_is 1 1 x y (y - x) y _ (by decide) HV.out RR.out.2.2 RR.out.1 RR.out.2.1).mono ?_
        rintro e u4 ⟨rfl, hb⟩
        have B4 : Below w.heap.size w u4 := bel_tr (by go_grown) hb
        have S4 := B4.size
        have qf := c2_below (⟨f0, f1, f2, f3, f4⟩ : Cell2 u3 (u1.heap.size) (.int .i64 x) (.int .i64 y)) hb
        clear hb f0 f1 f2 f3 f4 B3 S3
        obtain ⟨f0, f1, f2, f3, f4⟩ := qf
        go_wp2_with fail
        refine (iPart_is n (y - x) y r _ HS.out).mono ?_
        rintro e u5 ⟨rfl, hb⟩
        have B5 : Below w.heap.size w u5 := bel_tr (by go_grown) hb
        have S5 := B5.size
        have qf := c2_below (c2_alloc (⟨f0, f1, f2, f3, f4⟩ : Cell2 u4 (u1.heap.size) (.int .i64 x) (.int .i64 y)) _) hb
        have qg := c2_below (c2_new u4 (.int .i64 (y - x)) (.int .i64 y) _) hb
        clear hb f0 f1 f2 f3 f4 B4 S4
        obtain ⟨f0, f1, f2, f3, f4⟩ := qf
        obtain ⟨g0, g1, g2, g3, g4⟩ := qg
        go_wp2_with fail
        go_ret
        exact ⟨rfl, by go_grown⟩
      · have e1 : (o + r == n) = false := by simp; exact fun h => hq (q3.1 h)
        have e2 : (n * x % y == 0) = false := by simp [hq]
        clear q3 hq
        go_wp2_with fail
        refine (iPart_is n x y o _ HO.out).mono ?_
        rintro e u2 ⟨rfl, hb⟩
        have B2 : Below w.heap.size w u2 := bel_tr (by go_grown) hb
        have S2 := B2.size
        have qf := c2_below (c2_new u1 (.int .i64 x) (.int .i64 y) _) hb
        clear hb B1 S1
        obtain ⟨f0, f1, f2, f3, f4⟩ := qf
        go_wp2_with fail
        refine (sPart_is n x y o _ HO.out).mono ?_
        rintro e u3 ⟨rfl, hb⟩
        have B3 : Below w.heap.size w u3 := bel_tr (by go_grown) hb
        have S3 := B3.size
        have qf := c2_below (⟨f0, f1, f2, f3, f4⟩ : Cell2 u2 (u1.heap.size) (.int .i64 x) (.int .i64 y)) hb
        clear hb f0 f1 f2 f3 f4 B2 S2
        obtain ⟨f0, f1, f2, f3, f4⟩ := qf
        go_wp2_with fail
        refine (iSub_is 1 1 x y (y - x) y _ (by decide) HV.out RR.out.2.2 RR.out.1 RR.out.2.1).mono ?_
        rintro e u4 ⟨rfl, hb⟩
        have B4 : Below w.heap.size w u4 := bel_tr (by go_grown) hb
        have S4 := B4.size
        have qf := c2_below (⟨f0, f1, f2, f3, f4⟩ : Cell2 u3 (u1.heap.size) (.int .i64 x) (.int .i64 y)) hb
        clear hb f0 f1 f2 f3 f4 B3 S3
        obtain ⟨f0, f1, f2, f3, f4⟩ := qf
        go_wp2_with fail
        refine (iPart_is n (y - x) y r _ HS.out).mono ?_
        rintro e u5 ⟨rfl, hb⟩
        have B5 : Below w.heap.size w u5 := bel_tr (by go_grown) hb
        have S5 := B5.size
        have qf := c2_below (c2_alloc (⟨f0, f1, f2, f3, f4⟩ : Cell2 u4 (u1.heap.size) (.int .i64 x) (.int .i64 y)) _) hb
        have qg := c2_below (c2_new u4 (.int .i64 (y - x)) (.int .i64 y) _) hb
        clear hb f0 f1 f2 f3 f4 B4 S4
        obtain ⟨f0, f1, f2, f3, f4⟩ := qf
        obtain ⟨g0, g1, g2, g3, g4⟩ := qg
        go_wp2_with fail
        go_ret
        exact ⟨rfl, by go_grown⟩
    · have HO := Lib.hid (Wsh.partI_none hv)
      clear hv
      go_wp2_with fail
      refine (iPart_is n x y (-1) _ HO.out).mono ?_
      rintro e u2 ⟨rfl, hb⟩
      have B2 : Below w.heap.size w u2 := bel_tr (by go_grown) hb
      have S2 := B2.size
      have qf := c2_below (c2_new u1 (.int .i64 x) (.int .i64 y) _) hb
      clear hb B1 S1
      obtain ⟨f0, f1, f2, f3, f4⟩ := qf
      go_wp2_with fail
      refine (sPart_is n x y (-1) _ HO.out).mono ?_
      rintro e u3 ⟨rfl, hb⟩
      have B3 : Below w.heap.size w u3 := bel_tr (by go_grown) hb
      have S3 := B3.size
      have qf := c2_below (⟨f0, f1, f2, f3, f4⟩ : Cell2 u2 (u1.heap.size) (.int .i64 x) (.int .i64 y)) hb
      clear hb f0 f1 f2 f3 f4 B2 S2
      obtain ⟨f0, f1, f2, f3, f4⟩ := qf
      go_wp2_with fail
      refine (sPart_is n x y (-1) _ HO.out).mono ?_
      rintro e u4 ⟨rfl, hb⟩
      have B4 : Below w.heap.size w u4 := bel_tr (by go_grown) hb
      have S4 := B4.size
      have qf := c2_below (⟨f0, f1, f2, f3, f4⟩ : Cell2 u3 (u1.heap.size) (.int .i64 x) (.int .i64 y)) hb
      clear hb f0 f1 f2 f3 f4 B3 S3
      obtain ⟨f0, f1, f2, f3, f4⟩ := qf
      go_wp2_with fail
      go_ret
      exact ⟨rfl, by go_grown⟩

set_option maxRecDepth 100000 in
theorem lifted (os : Os) (started : os.Started) (H : Type) (enc : TypeId × Value → H) :
    ReturnsInHanded {} Try.checked os 9 .any (Rows.fnPartOfSpec.pre6 enc Try.prog Try.f9 Rows.fnPartOfRow.domain false) (Rows.fnPartOfSpec.post enc Try.prog Try.f9 false true false false) := by
  refine returnsInHanded_of_change (C := Try.checked) own started (by kernel_rfl) Try.func9
    (ChangeSpec.witness6 (enc := enc) (C := Try.checked) false ⟨#[], #[.slice none 0 0], []⟩ 8 (by kernel_rfl) (by kernel_rfl) (by kernel_rfl) (by kernel_rfl)) ?_
  intro W base args ds gs before hval0 hW hcnd _
  have hval : ∀ (j : Nat) t v, Try.f9.params[j]? = some t → args[j]? = some v → Value.okWide Try.prog W .any base t v := hval0
  have hW' := hW
  obtain ⟨p, q, hA0, hV, rfl, hfz, hnd⟩ := hW
  have hA : DataW.TrodAll enc Try.prog W 0 (fun _ => true) true Try.f9.params.toList args.toList ds p := hA0
  rw [Try.params9] at hA hval
  obtain ⟨v0, vs0, e0, es0, p0, q0, hargs, rfl, rfl, h0, r0⟩ := trodAll_cons hA
  obtain ⟨rfl, rfl, rfl⟩ := trodAll_nil r0
  obtain rfl : args = #[v0] := by cases args; simp_all
  obtain ⟨rfl, rfl⟩ := trodVars_none hV
  have k0 := h0
  have lt0 : ∀ x ∈ p0, x.block < W.heap.size := by obtain ⟨m, hm⟩ := k0; exact DataW.trod_lt m _ _ _ hm
  obtain ⟨a0, len0, cap0, rfl⟩ := okWide_slice Try.underlying22 (hval 0 22 v0 rfl rfl)
  obtain ⟨z0, w0⟩ : ∃ zs, IsRow .u8 W a0 len0 cap0 zs := by
    obtain ⟨fuel, hf⟩ := h0
    rcases open_ints Try.underlying22 Try.underlying5 (by kernel_rfl) hf with ⟨hcs, _⟩ | ⟨x, l, c, zs, hcs, _, hl, hm, hz, _, hcell, hwz⟩
    · simp [Value.cells] at hcs
      obtain ⟨rfl, rfl, rfl⟩ := hcs
      exact ⟨[], .inl ⟨rfl, rfl, rfl, rfl⟩⟩
    · simp [Value.cells] at hcs
      obtain ⟨rfl, rfl, rfl⟩ := hcs
      exact ⟨zs, .inr ⟨_, rfl, hl, hm, by simpa using hz, hcell, hwz⟩⟩
  clear hA0 hval0
  refine (walk a0 len0 cap0 z0 W w0).mono fun e W' ⟨he, bel⟩ => ?_
  subst he
  exact ⟨_, rfl, _, _, _, [], _, [], hW', trodAll_mk1 (shut_bool Try.underlying4 _), (trodAll_cons_mk (Below.trod laidOut (by kernel_rfl) (of_decide_eq_true (by kernel_rfl)) k0 bel lt0) trodAll_mk0), rfl, bel.frame _, fun h => by cases h⟩

theorem over : Rows.fnPartOfRow.holds Try.pinned (OpenSpec.ofChange Rows.fnPartOfSpec) :=
  OpenClaim.holds_of_wide 9 Try.f9 rfl rfl rfl rfl rfl rfl rfl ⟨rfl, rfl, rfl, rfl, rfl⟩ rfl rfl rfl rfl rfl (by kernel_rfl) Try.func9 (by kernel_rfl)
    (of_decide_eq_true (by kernel_rfl)) (by unfold Func.isWrapper; first | (rw [if_pos (by decide +kernel)]; kernel_rfl) | (rw [if_neg (by decide +kernel)]; exact ⟨rfl, rfl⟩))
    (fun os started H enc _ => lifted os started H enc)

end Go.Proofs.Ytihogilepflegab.fnPartOf
namespace Go.Proofs.Ytihogilepflegab
/-- the statement -/
theorem fnPartOf_holds : Rows.FnPartOfSaid := fnPartOf.over
end Go.Proofs.Ytihogilepflegab
