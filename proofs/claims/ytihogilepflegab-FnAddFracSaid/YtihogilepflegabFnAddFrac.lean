/- For every code the law answers true, and the code reads afterwards as before: AddFrac the other way round is the same, SubFrac takes the sum back, and CompareFrac tells that it is not less. No condition. -/
import Derived.Test.YtihogilepflegabRows
import Derived.Test.YtihogilepflegabKnown
import Derived.Test.YtihogilepflegabPlainB
import Derived.WalkKit
import Derived.ProofKit
import Derived.OpenShut
import Derived.ShutString
import Derived.ChangeOld
import Derived.Below
import Derived.Lib.SmallJoins
namespace Go.Proofs.Ytihogilepflegab.fnAddFrac
open Go.ChangeShapes Go.WideShapes Go.ChangeAt Go.RowKit Go.Joins
open Go.ChangeMaps (open_string shut_string)
set_option linter.unusedVariables false

theorem own : ownKnob Try.prog.godebug = none := by kernel_rfl
theorem laidOut : laidOutB Try.prog = true := by kernel_rfl

set_option maxHeartbeats 2000000 in
theorem walk (a0 : Option Addr) (len0 cap0 : Nat) (z0 : List Int) (w : World) (w0 : IsRow .u8 w a0 len0 cap0 z0) :
    Calls Try.prog 5 #[.slice a0 len0 cap0] w fun e w' => e = .returned (.bool true) ∧ Below w.heap.size w w' := by
  by_cases big : (1048576 : Int) < (len0 : Int)
  · go_enter Try.func5, Try.ntmps5
    go_wp2
    go_ret
    exact ⟨rfl, Below.refl _ _⟩
  · go_enter Try.func5, Try.ntmps5
    go_wp2_with fail
    refine (drawAdd a0 len0 cap0 z0 _ w0).mono ?_
    rintro e u1 ⟨x, y, u, v, rfl, hb⟩
    have B1 : Below w.heap.size w u1 := bel_tr (by go_grown) hb
    have S1 := B1.size
    clear hb
    cases hB : (Wsh.vfB x y && Wsh.vfB u v && Wsh.redB (x * v + u * y) (y * v)) with
    | false =>
      go_wp2_with fail
      refine (iAdd_no x y u v _ hB).mono ?_
      rintro e u2 ⟨rfl, hb⟩
      have B2 : Below w.heap.size w u2 := bel_tr (by go_grown) hb
      have S2 := B2.size
      have qf := c2_below (c2_alloc (c2_new u1 (.int .i64 x) (.int .i64 y) _) _) hb
      have qg := c2_below (c2_new (u1.alloc _) (.int .i64 u) (.int .i64 v) _) hb
      simp only [World.size_alloc] at qg
      clear hb B1 S1
      obtain ⟨f0, f1, f2, f3, f4⟩ := qf
      obtain ⟨g0, g1, g2, g3, g4⟩ := qg
      go_wp2_with fail
      refine (sAdd_no x y u v _ hB).mono ?_
      rintro e u3 ⟨rfl, hb⟩
      have B3 : Below w.heap.size w u3 := bel_tr (by go_grown) hb
      have S3 := B3.size
      have qf := c2_below (c2_alloc (⟨f0, f1, f2, f3, f4⟩ : Cell2 u2 (u1.heap.size) (.int .i64 x) (.int .i64 y)) _) hb
      have qg := c2_below (c2_alloc (⟨g0, g1, g2, g3, g4⟩ : Cell2 u2 (u1.heap.size + 1) (.int .i64 u) (.int .i64 v)) _) hb
      have qp := c2_below (c2_new u2 (.int .i64 0) (.int .i64 0) _) hb
      clear hb f0 f1 f2 f3 f4 g0 g1 g2 g3 g4 B2 S2
      obtain ⟨f0, f1, f2, f3, f4⟩ := qf
      obtain ⟨g0, g1, g2, g3, g4⟩ := qg
      obtain ⟨p0, p1, p2, p3, p4⟩ := qp
      go_wp2_with fail
      refine (lequal _ _ _).mono ?_
      rintro e u4 ⟨rfl, hb⟩
      have B4 : Below w.heap.size w u4 := bel_tr (by go_grown) hb
      have S4 := B4.size
      have qf := c2_below (c2_alloc (⟨f0, f1, f2, f3, f4⟩ : Cell2 u3 (u1.heap.size) (.int .i64 x) (.int .i64 y)) _) hb
      have qg := c2_below (c2_alloc (⟨g0, g1, g2, g3, g4⟩ : Cell2 u3 (u1.heap.size + 1) (.int .i64 u) (.int .i64 v)) _) hb
      have qp := c2_below (c2_alloc (⟨p0, p1, p2, p3, p4⟩ : Cell2 u3 (u2.heap.size) (.int .i64 0) (.int .i64 0)) _) hb
      have qq := c2_below (c2_new u3 (.int .i64 0) (.int .i64 0) _) hb
      clear hb f0 f1 f2 f3 f4 g0 g1 g2 g3 g4 p0 p1 p2 p3 p4 B3 S3
      obtain ⟨f0, f1, f2, f3, f4⟩ := qf
      obtain ⟨g0, g1, g2, g3, g4⟩ := qg
      obtain ⟨p0, p1, p2, p3, p4⟩ := qp
      obtain ⟨q0, q1, q2, q3, q4⟩ := qq
      go_wp2_with fail
      refine (lequal _ _ _).mono ?_
      rintro e u5 ⟨rfl, hb⟩
      have B5 : Below w.heap.size w u5 := bel_tr (by go_grown) hb
      have S5 := B5.size
      have qf := c2_below (⟨f0, f1, f2, f3, f4⟩ : Cell2 u4 (u1.heap.size) (.int .i64 x) (.int .i64 y)) hb
      have qg := c2_below (⟨g0, g1, g2, g3, g4⟩ : Cell2 u4 (u1.heap.size + 1) (.int .i64 u) (.int .i64 v)) hb
      have qp := c2_below (⟨p0, p1, p2, p3, p4⟩ : Cell2 u4 (u2.heap.size) (.int .i64 0) (.int .i64 0)) hb
      have qq := c2_below (⟨q0, q1, q2, q3, q4⟩ : Cell2 u4 (u3.heap.size) (.int .i64 0) (.int .i64 0)) hb
      clear hb f0 f1 f2 f3 f4 g0 g1 g2 g3 g4 p0 p1 p2 p3 p4 q0 q1 q2 q3 q4 B4 S4
      obtain ⟨f0, f1, f2, f3, f4⟩ := qf
      obtain ⟨g0, g1, g2, g3, g4⟩ := qg
      obtain ⟨p0, p1, p2, p3, p4⟩ := qp
      obtain ⟨q0, q1, q2, q3, q4⟩ := qq
      go_wp2_with fail
      go_ret
      exact ⟨rfl, by go_grown⟩
    | true =>
      obtain ⟨va, vb, vr⟩ := Wsh.and3_iff hB
      obtain ⟨m, hm⟩ : ∃ m, Wsh.rn (x * v + u * y) (y * v) = m := ⟨_, rfl⟩
      obtain ⟨z, hz⟩ : ∃ z, Wsh.rd (x * v + u * y) (y * v) = z := ⟨_, rfl⟩
      have vo : Wsh.vfB m z = true := by rw [← hm, ← hz]; exact Wsh.red_valid _ _ (Wsh.den_pos va vb) vr
      have C := Wsh.sub_of_add x y u v va vb vr
      have G := Wsh.add_ge x y u v va vb
      rw [hm, hz] at C G
      have CC := Lib.hid C
      have VO := Lib.hid vo
      have GG := Lib.hid (Wsh.cmp_ge vo va G)
      clear C G vo
      have HM := Lib.hid hm
      have HZ := Lib.hid hz
      have VR := Lib.hid vr
      have VA := Lib.hid va
      have VB := Lib.hid vb
      clear hm hz vr va vb hB
      go_wp2_with fail
      refine (iAdd_is x y u v m z _ VA.out VB.out VR.out HM.out HZ.out).mono ?_
      rintro e u2 ⟨rfl, hb⟩
      have B2 : Below w.heap.size w u2 := bel_tr (by go_grown) hb
      have S2 := B2.size
      have qf := c2_below (c2_alloc (c2_new u1 (.int .i64 x) (.int .i64 y) _) _) hb
      have qg := c2_below (c2_new (u1.alloc _) (.int .i64 u) (.int .i64 v) _) hb
      simp only [World.size_alloc] at qg
      clear hb B1 S1
      obtain ⟨f0, f1, f2, f3, f4⟩ := qf
      obtain ⟨g0, g1, g2, g3, g4⟩ := qg
      go_wp2_with fail
      refine (sAdd_is x y u v m z _ VA.out VB.out VR.out HM.out HZ.out).mono ?_
      rintro e u3 ⟨rfl, hb⟩
      have B3 : Below w.heap.size w u3 := bel_tr (by go_grown) hb
      have S3 := B3.size
      have qf := c2_below (c2_alloc (⟨f0, f1, f2, f3, f4⟩ : Cell2 u2 (u1.heap.size) (.int .i64 x) (.int .i64 y)) _) hb
      have qg := c2_below (c2_alloc (⟨g0, g1, g2, g3, g4⟩ : Cell2 u2 (u1.heap.size + 1) (.int .i64 u) (.int .i64 v)) _) hb
      have qp := c2_below (c2_new u2 (.int .i64 m) (.int .i64 z) _) hb
      clear hb f0 f1 f2 f3 f4 g0 g1 g2 g3 g4 B2 S2
      obtain ⟨f0, f1, f2, f3, f4⟩ := qf
      obtain ⟨g0, g1, g2, g3, g4⟩ := qg
      obtain ⟨p0, p1, p2, p3, p4⟩ := qp
      go_wp2_with fail
      refine (lequal _ _ _).mono ?_
      rintro e u4 ⟨rfl, hb⟩
      have B4 : Below w.heap.size w u4 := bel_tr (by go_grown) hb
      have S4 := B4.size
      have qf := c2_below (c2_alloc (⟨f0, f1, f2, f3, f4⟩ : Cell2 u3 (u1.heap.size) (.int .i64 x) (.int .i64 y)) _) hb
      have qg := c2_below (c2_alloc (⟨g0, g1, g2, g3, g4⟩ : Cell2 u3 (u1.heap.size + 1) (.int .i64 u) (.int .i64 v)) _) hb
      have qp := c2_below (c2_alloc (⟨p0, p1, p2, p3, p4⟩ : Cell2 u3 (u2.heap.size) (.int .i64 m) (.int .i64 z)) _) hb
      have qq := c2_below (c2_new u3 (.int .i64 m) (.int .i64 z) _) hb
      clear hb f0 f1 f2 f3 f4 g0 g1 g2 g3 g4 p0 p1 p2 p3 p4 B3 S3
      obtain ⟨f0, f1, f2, f3, f4⟩ := qf
      obtain ⟨g0, g1, g2, g3, g4⟩ := qg
      obtain ⟨p0, p1, p2, p3, p4⟩ := qp
      obtain ⟨q0, q1, q2, q3, q4⟩ := qq
      go_wp2_with fail
      refine (iAdd_is u v x y m z _ VB.out VA.out (Wsh.comm_red VR.out) (Wsh.comm_rn HM.out) (Wsh.comm_rd HZ.out)).mono ?_
      rintro e u5 ⟨rfl, hb⟩
      have B5 : Below w.heap.size w u5 := bel_tr (by go_grown) hb
      have S5 := B5.size
      have qf := c2_below (⟨f0, f1, f2, f3, f4⟩ : Cell2 u4 (u1.heap.size) (.int .i64 x) (.int .i64 y)) hb
      have qg := c2_below (⟨g0, g1, g2, g3, g4⟩ : Cell2 u4 (u1.heap.size + 1) (.int .i64 u) (.int .i64 v)) hb
      have qp := c2_below (⟨p0, p1, p2, p3, p4⟩ : Cell2 u4 (u2.heap.size) (.int .i64 m) (.int .i64 z)) hb
      have qq := c2_below (⟨q0, q1, q2, q3, q4⟩ : Cell2 u4 (u3.heap.size) (.int .i64 m) (.int .i64 z)) hb
      clear hb f0 f1 f2 f3 f4 g0 g1 g2 g3 g4 p0 p1 p2 p3 p4 q0 q1 q2 q3 q4 B4 S4
      obtain ⟨f0, f1, f2, f3, f4⟩ := qf
      obtain ⟨g0, g1, g2, g3, g4⟩ := qg
      obtain ⟨p0, p1, p2, p3, p4⟩ := qp
      obtain ⟨q0, q1, q2, q3, q4⟩ := qq
      go_wp2_with fail
      refine (iSub_is m z u v x y _ VO.out VB.out CC.out.2.2 CC.out.1 CC.out.2.1).mono ?_
      rintro e u6 ⟨rfl, hb⟩
      have B6 : Below w.heap.size w u6 := bel_tr (by go_grown) hb
      have S6 := B6.size
      have qf := c2_below (c2_alloc (⟨f0, f1, f2, f3, f4⟩ : Cell2 u5 (u1.heap.size) (.int .i64 x) (.int .i64 y)) _) hb
      have qg := c2_below (c2_alloc (⟨g0, g1, g2, g3, g4⟩ : Cell2 u5 (u1.heap.size + 1) (.int .i64 u) (.int .i64 v)) _) hb
      have qp := c2_below (c2_alloc (⟨p0, p1, p2, p3, p4⟩ : Cell2 u5 (u2.heap.size) (.int .i64 m) (.int .i64 z)) _) hb
      have qq := c2_below (c2_alloc (⟨q0, q1, q2, q3, q4⟩ : Cell2 u5 (u3.heap.size) (.int .i64 m) (.int .i64 z)) _) hb
      have qr := c2_below (c2_new u5 (.int .i64 m) (.int .i64 z) _) hb
      clear hb f0 f1 f2 f3 f4 g0 g1 g2 g3 g4 p0 p1 p2 p3 p4 q0 q1 q2 q3 q4 B5 S5
      obtain ⟨f0, f1, f2, f3, f4⟩ := qf
      obtain ⟨g0, g1, g2, g3, g4⟩ := qg
      obtain ⟨p0, p1, p2, p3, p4⟩ := qp
      obtain ⟨q0, q1, q2, q3, q4⟩ := qq
      obtain ⟨r0, r1, r2, r3, r4⟩ := qr
      have gg := GG.out
      go_wp2_with fail
      refine (iCompare m z x y _).mono ?_
      rintro e u7 ⟨rfl, hb⟩
      have B7 : Below w.heap.size w u7 := bel_tr (by go_grown) hb
      have S7 := B7.size
      have qf := c2_below (c2_alloc (⟨f0, f1, f2, f3, f4⟩ : Cell2 u6 (u1.heap.size) (.int .i64 x) (.int .i64 y)) _) hb
      have qg := c2_below (c2_alloc (⟨g0, g1, g2, g3, g4⟩ : Cell2 u6 (u1.heap.size + 1) (.int .i64 u) (.int .i64 v)) _) hb
      have qp := c2_below (c2_alloc (⟨p0, p1, p2, p3, p4⟩ : Cell2 u6 (u2.heap.size) (.int .i64 m) (.int .i64 z)) _) hb
      have qq := c2_below (c2_alloc (⟨q0, q1, q2, q3, q4⟩ : Cell2 u6 (u3.heap.size) (.int .i64 m) (.int .i64 z)) _) hb
      have qr := c2_below (c2_alloc (⟨r0, r1, r2, r3, r4⟩ : Cell2 u6 (u5.heap.size) (.int .i64 m) (.int .i64 z)) _) hb
      have qs := c2_below (c2_new u6 (.int .i64 x) (.int .i64 y) _) hb
      clear hb f0 f1 f2 f3 f4 g0 g1 g2 g3 g4 p0 p1 p2 p3 p4 q0 q1 q2 q3 q4 r0 r1 r2 r3 r4 B6 S6
      obtain ⟨f0, f1, f2, f3, f4⟩ := qf
      obtain ⟨g0, g1, g2, g3, g4⟩ := qg
      obtain ⟨p0, p1, p2, p3, p4⟩ := qp
      obtain ⟨q0, q1, q2, q3, q4⟩ := qq
      obtain ⟨r0, r1, r2, r3, r4⟩ := qr
      obtain ⟨s0, s1, s2, s3, s4⟩ := qs
      have vo := VO.out
      go_wp2_with fail
      refine (iValid m z _).mono ?_
      rintro e u8 ⟨rfl, hb⟩
      have B8 : Below w.heap.size w u8 := bel_tr (by go_grown) hb
      have S8 := B8.size
      have qf := c2_below (⟨f0, f1, f2, f3, f4⟩ : Cell2 u7 (u1.heap.size) (.int .i64 x) (.int .i64 y)) hb
      have qg := c2_below (⟨g0, g1, g2, g3, g4⟩ : Cell2 u7 (u1.heap.size + 1) (.int .i64 u) (.int .i64 v)) hb
      have qp := c2_below (⟨p0, p1, p2, p3, p4⟩ : Cell2 u7 (u2.heap.size) (.int .i64 m) (.int .i64 z)) hb
      have qq := c2_below (⟨q0, q1, q2, q3, q4⟩ : Cell2 u7 (u3.heap.size) (.int .i64 m) (.int .i64 z)) hb
      have qr := c2_below (⟨r0, r1, r2, r3, r4⟩ : Cell2 u7 (u5.heap.size) (.int .i64 m) (.int .i64 z)) hb
      have qs := c2_below (⟨s0, s1, s2, s3, s4⟩ : Cell2 u7 (u6.heap.size) (.int .i64 x) (.int .i64 y)) hb
      clear hb f0 f1 f2 f3 f4 g0 g1 g2 g3 g4 p0 p1 p2 p3 p4 q0 q1 q2 q3 q4 r0 r1 r2 r3 r4 s0 s1 s2 s3 s4 B7 S7
      obtain ⟨f0, f1, f2, f3, f4⟩ := qf
      obtain ⟨g0, g1, g2, g3, g4⟩ := qg
      obtain ⟨p0, p1, p2, p3, p4⟩ := qp
      obtain ⟨q0, q1, q2, q3, q4⟩ := qq
      obtain ⟨r0, r1, r2, r3, r4⟩ := qr
      obtain ⟨s0, s1, s2, s3, s4⟩ := qs
      go_wp2_with fail
      go_ret
      exact ⟨rfl, by go_grown⟩

set_option maxRecDepth 100000 in
theorem lifted (os : Os) (started : os.Started) (H : Type) (enc : TypeId × Value → H) :
    ReturnsInHanded {} Try.checked os 5 .any (Rows.fnAddFracSpec.pre6 enc Try.prog Try.f5 Rows.fnAddFracRow.domain false) (Rows.fnAddFracSpec.post enc Try.prog Try.f5 false true false false) := by
  refine returnsInHanded_of_change (C := Try.checked) own started (by kernel_rfl) Try.func5
    (ChangeSpec.witness6 (enc := enc) (C := Try.checked) false ⟨#[], #[.slice none 0 0], []⟩ 8 (by kernel_rfl) (by kernel_rfl) (by kernel_rfl) (by kernel_rfl)) ?_
  intro W base args ds gs before hval0 hW hcnd _
  have hval : ∀ (j : Nat) t v, Try.f5.params[j]? = some t → args[j]? = some v → Value.okWide Try.prog W .any base t v := hval0
  have hW' := hW
  obtain ⟨p, q, hA0, hV, rfl, hfz, hnd⟩ := hW
  have hA : DataW.TrodAll enc Try.prog W 0 (fun _ => true) true Try.f5.params.toList args.toList ds p := hA0
  rw [Try.params5] at hA hval
  obtain ⟨v0, vs0, e0, es0, p0, q0, hargs, rfl, rfl, h0, r0⟩ := trodAll_cons hA
  obtain ⟨rfl, rfl, rfl⟩ := trodAll_nil r0
  obtain rfl : args = #[v0] := by cases args; simp_all
  obtain ⟨rfl, rfl⟩ := trodVars_none hV
  have k0 := h0
  have lt0 : ∀ x ∈ p0, x.block < W.heap.size := by obtain ⟨m, hm⟩ := k0; exact DataW.trod_lt m _ _ _ hm
  obtain ⟨a0, len0, cap0, rfl⟩ := okWide_slice Try.underlying22 (hval 0 22 v0 rfl rfl)
  obtain ⟨z0, w0⟩ : ∃ zs, IsRow .u8 W a0 len0 cap0 zs := by
    obtain ⟨fuel, hf⟩ := h0
    rcases open_ints Try.underlying22 Try.underlying5 (by kernel_rfl) hf with ⟨hcs, _⟩ | ⟨x, l, c, zs, hcs, _, hl, hm, hz, _, hcell, hwz⟩
    · simp [Value.cells] at hcs
      obtain ⟨rfl, rfl, rfl⟩ := hcs
      exact ⟨[], .inl ⟨rfl, rfl, rfl, rfl⟩⟩
    · simp [Value.cells] at hcs
      obtain ⟨rfl, rfl, rfl⟩ := hcs
      exact ⟨zs, .inr ⟨_, rfl, hl, hm, by simpa using hz, hcell, hwz⟩⟩
  clear hA0 hval0
  refine (walk a0 len0 cap0 z0 W w0).mono fun e W' ⟨he, bel⟩ => ?_
  subst he
  exact ⟨_, rfl, _, _, _, [], _, [], hW', trodAll_mk1 (shut_bool Try.underlying4 _), (trodAll_cons_mk (Below.trod laidOut (by kernel_rfl) (of_decide_eq_true (by kernel_rfl)) k0 bel lt0) trodAll_mk0), rfl, bel.frame _, fun h => by cases h⟩

theorem over : Rows.fnAddFracRow.holds Try.pinned (OpenSpec.ofChange Rows.fnAddFracSpec) :=
  OpenClaim.holds_of_wide 5 Try.f5 rfl rfl rfl rfl rfl rfl rfl ⟨rfl, rfl, rfl, rfl, rfl⟩ rfl rfl rfl rfl rfl (by kernel_rfl) Try.func5 (by kernel_rfl)
    (of_decide_eq_true (by kernel_rfl)) (by unfold Func.isWrapper; first | (rw [if_pos (by decide +kernel)]; kernel_rfl) | (rw [if_neg (by decide +kernel)]; exact ⟨rfl, rfl⟩))
    (fun os started H enc _ => lifted os started H enc)

end Go.Proofs.Ytihogilepflegab.fnAddFrac
namespace Go.Proofs.Ytihogilepflegab
/-- the statement -/
theorem fnAddFrac_holds : Rows.FnAddFracSaid := fnAddFrac.over
end Go.Proofs.Ytihogilepflegab
