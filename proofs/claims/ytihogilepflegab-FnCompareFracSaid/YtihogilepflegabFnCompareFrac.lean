/- For every code the law answers true, and the code reads afterwards as before: CompareFrac the other way round is the other sign, and 0 exactly for equal fractions. No condition. -/
import Derived.Test.YtihogilepflegabRows
import Derived.Test.YtihogilepflegabKnownB
import Derived.WalkKit
import Derived.ProofKit
import Derived.OpenShut
import Derived.ShutString
import Derived.ChangeOld
import Derived.Below
import Derived.Lib.SmallJoins
namespace Go.Proofs.Ytihogilepflegab.fnCompareFrac
open Go.ChangeShapes Go.WideShapes Go.ChangeAt Go.RowKit Go.Joins
open Go.ChangeMaps (open_string shut_string)
set_option linter.unusedVariables false

theorem own : ownKnob Try.prog.godebug = none := by kernel_rfl
theorem laidOut : laidOutB Try.prog = true := by kernel_rfl

set_option maxHeartbeats 2000000 in
theorem walk (a0 : Option Addr) (len0 cap0 : Nat) (z0 : List Int) (w : World) (w0 : IsRow .u8 w a0 len0 cap0 z0) :
    Calls Try.prog 6 #[.slice a0 len0 cap0] w fun e w' => e = .returned (.bool true) ∧ Below w.heap.size w w' := by
  by_cases big : (1048576 : Int) < (len0 : Int)
  · go_enter Try.func6, Try.ntmps6
    go_wp2
    go_ret
    exact ⟨rfl, Below.refl _ _⟩
  · go_enter Try.func6, Try.ntmps6
    go_wp2_with fail
    refine (drawCompare a0 len0 cap0 z0 _ w0).mono ?_
    rintro e u1 ⟨x, y, u, v, rfl, hb⟩
    have B1 : Below w.heap.size w u1 := bel_tr (by go_grown) hb
    have S1 := B1.size
    clear hb
    cases ha : Wsh.vfB x y with
    | false =>
      have HC := Lib.hid (Wsh.cmpF_no1 u v ha)
      go_wp2_with fail
      refine (iCompare_is x y u v 0 _ HC.out).mono ?_
      rintro e u2 ⟨rfl, hb⟩
      have B2 : Below w.heap.size w u2 := bel_tr (by go_grown) hb
      have S2 := B2.size
      have qf := c2_below (c2_alloc (c2_new u1 (.int .i64 x) (.int .i64 y) _) _) hb
      have qg := c2_below (c2_new (u1.alloc _) (.int .i64 u) (.int .i64 v) _) hb
      simp only [World.size_alloc] at qg
      clear hb B1 S1
      obtain ⟨f0, f1, f2, f3, f4⟩ := qf
      obtain ⟨g0, g1, g2, g3, g4⟩ := qg
      go_wp2_with fail
      refine (sCompare_is x y u v 0 _ HC.out).mono ?_
      rintro e u3 ⟨rfl, hb⟩
      have B3 : Below w.heap.size w u3 := bel_tr (by go_grown) hb
      have S3 := B3.size
      have qf := c2_below (⟨f0, f1, f2, f3, f4⟩ : Cell2 u2 (u1.heap.size) (.int .i64 x) (.int .i64 y)) hb
      have qg := c2_below (⟨g0, g1, g2, g3, g4⟩ : Cell2 u2 (u1.heap.size + 1) (.int .i64 u) (.int .i64 v)) hb
      clear hb f0 f1 f2 f3 f4 g0 g1 g2 g3 g4 B2 S2
      obtain ⟨f0, f1, f2, f3, f4⟩ := qf
      obtain ⟨g0, g1, g2, g3, g4⟩ := qg
      go_wp2_with fail
      refine (iValid x y _).mono ?_
      rintro e u4 ⟨rfl, hb⟩
      have B4 : Below w.heap.size w u4 := bel_tr (by go_grown) hb
      have S4 := B4.size
      have qf := c2_below (⟨f0, f1, f2, f3, f4⟩ : Cell2 u3 (u1.heap.size) (.int .i64 x) (.int .i64 y)) hb
      have qg := c2_below (⟨g0, g1, g2, g3, g4⟩ : Cell2 u3 (u1.heap.size + 1) (.int .i64 u) (.int .i64 v)) hb
      clear hb f0 f1 f2 f3 f4 g0 g1 g2 g3 g4 B3 S3
      obtain ⟨f0, f1, f2, f3, f4⟩ := qf
      obtain ⟨g0, g1, g2, g3, g4⟩ := qg
      go_wp2_with fail
      refine (sCompare_is x y u v 0 _ HC.out).mono ?_
      rintro e u5 ⟨rfl, hb⟩
      have B5 : Below w.heap.size w u5 := bel_tr (by go_grown) hb
      have S5 := B5.size
      have qf := c2_below (⟨f0, f1, f2, f3, f4⟩ : Cell2 u4 (u1.heap.size) (.int .i64 x) (.int .i64 y)) hb
      have qg := c2_below (⟨g0, g1, g2, g3, g4⟩ : Cell2 u4 (u1.heap.size + 1) (.int .i64 u) (.int .i64 v)) hb
      clear hb f0 f1 f2 f3 f4 g0 g1 g2 g3 g4 B4 S4
      obtain ⟨f0, f1, f2, f3, f4⟩ := qf
      obtain ⟨g0, g1, g2, g3, g4⟩ := qg
      go_wp2_with fail
      go_ret
      exact ⟨rfl, by go_grown⟩
    | true =>
      cases hb0 : Wsh.vfB u v with
      | false =>
        have HC := Lib.hid (Wsh.cmpF_no2 x y hb0)
        go_wp2_with fail
        refine (iCompare_is x y u v 0 _ HC.out).mono ?_
        rintro e u2 ⟨rfl, hb⟩
        have B2 : Below w.heap.size w u2 := bel_tr (by go_grown) hb
        have S2 := B2.size
        have qf := c2_below (c2_alloc (c2_new u1 (.int .i64 x) (.int .i64 y) _) _) hb
        have qg := c2_below (c2_new (u1.alloc _) (.int .i64 u) (.int .i64 v) _) hb
        simp only [World.size_alloc] at qg
        clear hb B1 S1
        obtain ⟨f0, f1, f2, f3, f4⟩ := qf
        obtain ⟨g0, g1, g2, g3, g4⟩ := qg
        go_wp2_with fail
        refine (sCompare_is x y u v 0 _ HC.out).mono ?_
        rintro e u3 ⟨rfl, hb⟩
        have B3 : Below w.heap.size w u3 := bel_tr (by go_grown) hb
        have S3 := B3.size
        have qf := c2_below (⟨f0, f1, f2, f3, f4⟩ : Cell2 u2 (u1.heap.size) (.int .i64 x) (.int .i64 y)) hb
        have qg := c2_below (⟨g0, g1, g2, g3, g4⟩ : Cell2 u2 (u1.heap.size + 1) (.int .i64 u) (.int .i64 v)) hb
        clear hb f0 f1 f2 f3 f4 g0 g1 g2 g3 g4 B2 S2
        obtain ⟨f0, f1, f2, f3, f4⟩ := qf
        obtain ⟨g0, g1, g2, g3, g4⟩ := qg
        go_wp2_with fail
        refine (iValid x y _).mono ?_
        rintro e u4 ⟨rfl, hb⟩
        have B4 : Below w.heap.size w u4 := bel_tr (by go_grown) hb
        have S4 := B4.size
        have qf := c2_below (⟨f0, f1, f2, f3, f4⟩ : Cell2 u3 (u1.heap.size) (.int .i64 x) (.int .i64 y)) hb
        have qg := c2_below (⟨g0, g1, g2, g3, g4⟩ : Cell2 u3 (u1.heap.size + 1) (.int .i64 u) (.int .i64 v)) hb
        clear hb f0 f1 f2 f3 f4 g0 g1 g2 g3 g4 B3 S3
        obtain ⟨f0, f1, f2, f3, f4⟩ := qf
        obtain ⟨g0, g1, g2, g3, g4⟩ := qg
        go_wp2_with fail
        refine (iValid u v _).mono ?_
        rintro e u5 ⟨rfl, hb⟩
        have B5 : Below w.heap.size w u5 := bel_tr (by go_grown) hb
        have S5 := B5.size
        have qf := c2_below (⟨f0, f1, f2, f3, f4⟩ : Cell2 u4 (u1.heap.size) (.int .i64 x) (.int .i64 y)) hb
        have qg := c2_below (⟨g0, g1, g2, g3, g4⟩ : Cell2 u4 (u1.heap.size + 1) (.int .i64 u) (.int .i64 v)) hb
        clear hb f0 f1 f2 f3 f4 g0 g1 g2 g3 g4 B4 S4
        obtain ⟨f0, f1, f2, f3, f4⟩ := qf
        obtain ⟨g0, g1, g2, g3, g4⟩ := qg
        go_wp2_with fail
        refine (sCompare_is x y u v 0 _ HC.out).mono ?_
        rintro e u6 ⟨rfl, hb⟩
        have B6 : Below w.heap.size w u6 := bel_tr (by go_grown) hb
        have S6 := B6.size
        have qf := c2_below (⟨f0, f1, f2, f3, f4⟩ : Cell2 u5 (u1.heap.size) (.int .i64 x) (.int .i64 y)) hb
        have qg := c2_below (⟨g0, g1, g2, g3, g4⟩ : Cell2 u5 (u1.heap.size + 1) (.int .i64 u) (.int .i64 v)) hb
        clear hb f0 f1 f2 f3 f4 g0 g1 g2 g3 g4 B5 S5
        obtain ⟨f0, f1, f2, f3, f4⟩ := qf
        obtain ⟨g0, g1, g2, g3, g4⟩ := qg
        go_wp2_with fail
        go_ret
        exact ⟨rfl, by go_grown⟩
      | true =>
        by_cases h1 : x * v < u * y
        · have HC := Lib.hid ((Wsh.cmpF_yes ha hb0).trans (Wsh.cmpI_lt h1))
          have HD := Lib.hid ((Wsh.cmpF_yes hb0 ha).trans (Wsh.cmpI_gt h1))
          have hne := Wsh.ne_of_lt (Or.inl h1)
          clear h1
          go_wp2_with fail
          refine (iCompare_is x y u v (-1) _ HC.out).mono ?_
          rintro e u2 ⟨rfl, hb⟩
          have B2 : Below w.heap.size w u2 := bel_tr (by go_grown) hb
          have S2 := B2.size
          have qf := c2_below (c2_alloc (c2_new u1 (.int .i64 x) (.int .i64 y) _) _) hb
          have qg := c2_below (c2_new (u1.alloc _) (.int .i64 u) (.int .i64 v) _) hb
          simp only [World.size_alloc] at qg
          clear hb B1 S1
          obtain ⟨f0, f1, f2, f3, f4⟩ := qf
          obtain ⟨g0, g1, g2, g3, g4⟩ := qg
          go_wp2_with fail
          refine (sCompare_is x y u v (-1) _ HC.out).mono ?_
          rintro e u3 ⟨rfl, hb⟩
          have B3 : Below w.heap.size w u3 := bel_tr (by go_grown) hb
          have S3 := B3.size
          have qf := c2_below (⟨f0, f1, f2, f3, f4⟩ : Cell2 u2 (u1.heap.size) (.int .i64 x) (.int .i64 y)) hb
          have qg := c2_below (⟨g0, g1, g2, g3, g4⟩ : Cell2 u2 (u1.heap.size + 1) (.int .i64 u) (.int .i64 v)) hb
          clear hb f0 f1 f2 f3 f4 g0 g1 g2 g3 g4 B2 S2
          obtain ⟨f0, f1, f2, f3, f4⟩ := qf
          obtain ⟨g0, g1, g2, g3, g4⟩ := qg
          go_wp2_with fail
          refine (iValid x y _).mono ?_
          rintro e u4 ⟨rfl, hb⟩
          have B4 : Below w.heap.size w u4 := bel_tr (by go_grown) hb
          have S4 := B4.size
          have qf := c2_below (⟨f0, f1, f2, f3, f4⟩ : Cell2 u3 (u1.heap.size) (.int .i64 x) (.int .i64 y)) hb
          have qg := c2_below (⟨g0, g1, g2, g3, g4⟩ : Cell2 u3 (u1.heap.size + 1) (.int .i64 u) (.int .i64 v)) hb
          clear hb f0 f1 f2 f3 f4 g0 g1 g2 g3 g4 B3 S3
          obtain ⟨f0, f1, f2, f3, f4⟩ := qf
          obtain ⟨g0, g1, g2, g3, g4⟩ := qg
          go_wp2_with fail
          refine (iValid u v _).mono ?_
          rintro e u5 ⟨rfl, hb⟩
          have B5 : Below w.heap.size w u5 := bel_tr (by go_grown) hb
          have S5 := B5.size
          have qf := c2_below (⟨f0, f1, f2, f3, f4⟩ : Cell2 u4 (u1.heap.size) (.int .i64 x) (.int .i64 y)) hb
          have qg := c2_below (⟨g0, g1, g2, g3, g4⟩ : Cell2 u4 (u1.heap.size + 1) (.int .i64 u) (.int .i64 v)) hb
          clear hb f0 f1 f2 f3 f4 g0 g1 g2 g3 g4 B4 S4
          obtain ⟨f0, f1, f2, f3, f4⟩ := qf
          obtain ⟨g0, g1, g2, g3, g4⟩ := qg
          go_wp2_with fail
          refine (iCompare_is u v x y (1) _ HD.out).mono ?_
          rintro e u6 ⟨rfl, hb⟩
          have B6 : Below w.heap.size w u6 := bel_tr (by go_grown) hb
          have S6 := B6.size
          have qf := c2_below (⟨f0, f1, f2, f3, f4⟩ : Cell2 u5 (u1.heap.size) (.int .i64 x) (.int .i64 y)) hb
          have qg := c2_below (⟨g0, g1, g2, g3, g4⟩ : Cell2 u5 (u1.heap.size + 1) (.int .i64 u) (.int .i64 v)) hb
          clear hb f0 f1 f2 f3 f4 g0 g1 g2 g3 g4 B5 S5
          obtain ⟨f0, f1, f2, f3, f4⟩ := qf
          obtain ⟨g0, g1, g2, g3, g4⟩ := qg
          go_wp2_with fail
          all_goals (go_ret; exact ⟨rfl, by go_grown⟩)
        · by_cases h2 : u * y < x * v
          · have HC := Lib.hid ((Wsh.cmpF_yes ha hb0).trans (Wsh.cmpI_gt h2))
            have HD := Lib.hid ((Wsh.cmpF_yes hb0 ha).trans (Wsh.cmpI_lt h2))
            have hne := Wsh.ne_of_lt (Or.inr h2)
            clear h1 h2
            go_wp2_with fail
            refine (iCompare_is x y u v (1) _ HC.out).mono ?_
            rintro e u2 ⟨rfl, hb⟩
            have B2 : Below w.heap.size w u2 := bel_tr (by go_grown) hb
            have S2 := B2.size
            have qf := c2_below (c2_alloc (c2_new u1 (.int .i64 x) (.int .i64 y) _) _) hb
            have qg := c2_below (c2_new (u1.alloc _) (.int .i64 u) (.int .i64 v) _) hb
            simp only [World.size_alloc] at qg
            clear hb B1 S1
            obtain ⟨f0, f1, f2, f3, f4⟩ := qf
            obtain ⟨g0, g1, g2, g3, g4⟩ := qg
            go_wp2_with fail
            refine (sCompare_is x y u v (1) _ HC.out).mono ?_
            rintro e u3 ⟨rfl, hb⟩
            have B3 : Below w.heap.size w u3 := bel_tr (by go_grown) hb
            have S3 := B3.size
            have qf := c2_below (⟨f0, f1, f2, f3, f4⟩ : Cell2 u2 (u1.heap.size) (.int .i64 x) (.int .i64 y)) hb
            have qg := c2_below (⟨g0, g1, g2, g3, g4⟩ : Cell2 u2 (u1.heap.size + 1) (.int .i64 u) (.int .i64 v)) hb
            clear hb f0 f1 f2 f3 f4 g0 g1 g2 g3 g4 B2 S2
            obtain ⟨f0, f1, f2, f3, f4⟩ := qf
            obtain ⟨g0, g1, g2, g3, g4⟩ := qg
            go_wp2_with fail
            refine (iValid x y _).mono ?_
            rintro e u4 ⟨rfl, hb⟩
            have B4 : Below w.heap.size w u4 := bel_tr (by go_grown) hb
            have S4 := B4.size
            have qf := c2_below (⟨f0, f1, f2, f3, f4⟩ : Cell2 u3 (u1.heap.size) (.int .i64 x) (.int .i64 y)) hb
            have qg := c2_below (⟨g0, g1, g2, g3, g4⟩ : Cell2 u3 (u1.heap.size + 1) (.int .i64 u) (.int .i64 v)) hb
            clear hb f0 f1 f2 f3 f4 g0 g1 g2 g3 g4 B3 S3
            obtain ⟨f0, f1, f2, f3, f4⟩ := qf
            obtain ⟨g0, g1, g2, g3, g4⟩ := qg
            go_wp2_with fail
            refine (iValid u v _).mono ?_
            rintro e u5 ⟨rfl, hb⟩
            have B5 : Below w.heap.size w u5 := bel_tr (by go_grown) hb
            have S5 := B5.size
            have qf := c2_below (⟨f0, f1, f2, f3, f4⟩ : Cell2 u4 (u1.heap.size) (.int .i64 x) (.int .i64 y)) hb
            have qg := c2_below (⟨g0, g1, g2, g3, g4⟩ : Cell2 u4 (u1.heap.size + 1) (.int .i64 u) (.int .i64 v)) hb
            clear hb f0 f1 f2 f3 f4 g0 g1 g2 g3 g4 B4 S4
            obtain ⟨f0, f1, f2, f3, f4⟩ := qf
            obtain ⟨g0, g1, g2, g3, g4⟩ := qg
            go_wp2_with fail
            refine (iCompare_is u v x y (-1) _ HD.out).mono ?_
            rintro e u6 ⟨rfl, hb⟩
            have B6 : Below w.heap.size w u6 := bel_tr (by go_grown) hb
            have S6 := B6.size
            have qf := c2_below (⟨f0, f1, f2, f3, f4⟩ : Cell2 u5 (u1.heap.size) (.int .i64 x) (.int .i64 y)) hb
            have qg := c2_below (⟨g0, g1, g2, g3, g4⟩ : Cell2 u5 (u1.heap.size + 1) (.int .i64 u) (.int .i64 v)) hb
            clear hb f0 f1 f2 f3 f4 g0 g1 g2 g3 g4 B5 S5
            obtain ⟨f0, f1, f2, f3, f4⟩ := qf
            obtain ⟨g0, g1, g2, g3, g4⟩ := qg
            go_wp2_with fail
            all_goals (go_ret; exact ⟨rfl, by go_grown⟩)
          · obtain ⟨rfl, rfl⟩ := Wsh.uniq x y u v ha hb0 (by omega)
            have HC := Lib.hid ((Wsh.cmpF_yes ha ha).trans (Wsh.cmpI_eq rfl))
            have HD := Lib.hid ((Wsh.cmpF_yes ha ha).trans (Wsh.cmpI_eq rfl))
            clear h1 h2
            go_wp2_with fail
            refine (iCompare_is x y x y (0) _ HC.out).mono ?_
            rintro e u2 ⟨rfl, hb⟩
            have B2 : Below w.heap.size w u2 := bel_tr (by go_grown) hb
            have S2 := B2.size
            have qf := c2_below (c2_alloc (c2_new u1 (.int .i64 x) (.int .i64 y) _) _) hb
            have qg := c2_below (c2_new (u1.alloc _) (.int .i64 x) (.int .i64 y) _) hb
            simp only [World.size_alloc] at qg
            clear hb B1 S1
            obtain ⟨f0, f1, f2, f3, f4⟩ := qf
            obtain ⟨g0, g1, g2, g3, g4⟩ := qg
            go_wp2_with fail
            refine (sCompare_is x y x y (0) _ HC.out).mono ?_
            rintro e u3 ⟨rfl, hb⟩
            have B3 : Below w.heap.size w u3 := bel_tr (by go_grown) hb
            have S3 := B3.size
            have qf := c2_below (⟨f0, f1, f2, f3, f4⟩ : Cell2 u2 (u1.heap.size) (.int .i64 x) (.int .i64 y)) hb
            have qg := c2_below (⟨g0, g1, g2, g3, g4⟩ : Cell2 u2 (u1.heap.size + 1) (.int .i64 x) (.int .i64 y)) hb
            clear hb f0 f1 f2 f3 f4 g0 g1 g2 g3 g4 B2 S2
            obtain ⟨f0, f1, f2, f3, f4⟩ := qf
            obtain ⟨g0, g1, g2, g3, g4⟩ := qg
            go_wp2_with fail
            refine (iValid x y _).mono ?_
            rintro e u4 ⟨rfl, hb⟩
            have B4 : Below w.heap.size w u4 := bel_tr (by go_grown) hb
            have S4 := B4.size
            have qf := c2_below (⟨f0, f1, f2, f3, f4⟩ : Cell2 u3 (u1.heap.size) (.int .i64 x) (.int .i64 y)) hb
            have qg := c2_below (⟨g0, g1, g2, g3, g4⟩ : Cell2 u3 (u1.heap.size + 1) (.int .i64 x) (.int .i64 y)) hb
            clear hb f0 f1 f2 f3 f4 g0 g1 g2 g3 g4 B3 S3
            obtain ⟨f0, f1, f2, f3, f4⟩ := qf
            obtain ⟨g0, g1, g2, g3, g4⟩ := qg
            go_wp2_with fail
            refine (iValid x y _).mono ?_
            rintro e u5 ⟨rfl, hb⟩
            have B5 : Below w.heap.size w u5 := bel_tr (by go_grown) hb
            have S5 := B5.size
            have qf := c2_below (⟨f0, f1, f2, f3, f4⟩ : Cell2 u4 (u1.heap.size) (.int .i64 x) (.int .i64 y)) hb
            have qg := c2_below (⟨g0, g1, g2, g3, g4⟩ : Cell2 u4 (u1.heap.size + 1) (.int .i64 x) (.int .i64 y)) hb
            clear hb f0 f1 f2 f3 f4 g0 g1 g2 g3 g4 B4 S4
            obtain ⟨f0, f1, f2, f3, f4⟩ := qf
            obtain ⟨g0, g1, g2, g3, g4⟩ := qg
            go_wp2_with fail
            refine (iCompare_is x y x y (0) _ HD.out).mono ?_
            rintro e u6 ⟨rfl, hb⟩
            have B6 : Below w.heap.size w u6 := bel_tr (by go_grown) hb
            have S6 := B6.size
            have qf := c2_below (⟨f0, f1, f2, f3, f4⟩ : Cell2 u5 (u1.heap.size) (.int .i64 x) (.int .i64 y)) hb
            have qg := c2_below (⟨g0, g1, g2, g3, g4⟩ : Cell2 u5 (u1.heap.size + 1) (.int .i64 x) (.int .i64 y)) hb
            clear hb f0 f1 f2 f3 f4 g0 g1 g2 g3 g4 B5 S5
            obtain ⟨f0, f1, f2, f3, f4⟩ := qf
            obtain ⟨g0, g1, g2, g3, g4⟩ := qg
            go_wp2_with fail
            all_goals (go_ret; exact ⟨rfl, by go_grown⟩)

set_option maxRecDepth 100000 in
theorem lifted (os : Os) (started : os.Started) (H : Type) (enc : TypeId × Value → H) :
    ReturnsInHanded {} Try.checked os 6 .any (Rows.fnCompareFracSpec.pre6 enc Try.prog Try.f6 Rows.fnCompareFracRow.domain false) (Rows.fnCompareFracSpec.post enc Try.prog Try.f6 false true false false) := by
  refine returnsInHanded_of_change (C := Try.checked) own started (by kernel_rfl) Try.func6
    (ChangeSpec.witness6 (enc := enc) (C := Try.checked) false ⟨#[], #[.slice none 0 0], []⟩ 8 (by kernel_rfl) (by kernel_rfl) (by kernel_rfl) (by kernel_rfl)) ?_
  intro W base args ds gs before hval0 hW hcnd _
  have hval : ∀ (j : Nat) t v, Try.f6.params[j]? = some t → args[j]? = some v → Value.okWide Try.prog W .any base t v := hval0
  have hW' := hW
  obtain ⟨p, q, hA0, hV, rfl, hfz, hnd⟩ := hW
  have hA : DataW.TrodAll enc Try.prog W 0 (fun _ => true) true Try.f6.params.toList args.toList ds p := hA0
  rw [Try.params6] at hA hval
  obtain ⟨v0, vs0, e0, es0, p0, q0, hargs, rfl, rfl, h0, r0⟩ := trodAll_cons hA
  obtain ⟨rfl, rfl, rfl⟩ := trodAll_nil r0
  obtain rfl : args = #[v0] := by cases args; simp_all
  obtain ⟨rfl, rfl⟩ := trodVars_none hV
  have k0 := h0
  have lt0 : ∀ x ∈ p0, x.block < W.heap.size := by obtain ⟨m, hm⟩ := k0; exact DataW.trod_lt m _ _ _ hm
  obtain ⟨a0, len0, cap0, rfl⟩ := okWide_slice Try.underlying22 (hval 0 22 v0 rfl rfl)
  obtain ⟨z0, w0⟩ : ∃ zs, IsRow .u8 W a0 len0 cap0 zs := by
    obtain ⟨fuel, hf⟩ := h0
    rcases open_ints Try.underlying22 Try.underlying5 (by kernel_rfl) hf with ⟨hcs, _⟩ | ⟨x, l, c, zs, hcs, _, hl, hm, hz, _, hcell, hwz⟩
    · simp [Value.cells] at hcs
      obtain ⟨rfl, rfl, rfl⟩ := hcs
      exact ⟨[], .inl ⟨rfl, rfl, rfl, rfl⟩⟩
    · simp [Value.cells] at hcs
      obtain ⟨rfl, rfl, rfl⟩ := hcs
      exact ⟨zs, .inr ⟨_, rfl, hl, hm, by simpa using hz, hcell, hwz⟩⟩
  clear hA0 hval0
  refine (walk a0 len0 cap0 z0 W w0).mono fun e W' ⟨he, bel⟩ => ?_
  subst he
  exact ⟨_, rfl, _, _, _, [], _, [], hW', trodAll_mk1 (shut_bool Try.underlying4 _), (trodAll_cons_mk (Below.trod laidOut (by kernel_rfl) (of_decide_eq_true (by kernel_rfl)) k0 bel lt0) trodAll_mk0), rfl, bel.frame _, fun h => by cases h⟩

theorem over : Rows.fnCompareFracRow.holds Try.pinned (OpenSpec.ofChange Rows.fnCompareFracSpec) :=
  OpenClaim.holds_of_wide 6 Try.f6 rfl rfl rfl rfl rfl rfl rfl ⟨rfl, rfl, rfl, rfl, rfl⟩ rfl rfl rfl rfl rfl (by kernel_rfl) Try.func6 (by kernel_rfl)
    (of_decide_eq_true (by kernel_rfl)) (by unfold Func.isWrapper; first | (rw [if_pos (by decide +kernel)]; kernel_rfl) | (rw [if_neg (by decide +kernel)]; exact ⟨rfl, rfl⟩))
    (fun os started H enc _ => lifted os started H enc)

end Go.Proofs.Ytihogilepflegab.fnCompareFrac
namespace Go.Proofs.Ytihogilepflegab
/-- the statement -/
theorem fnCompareFrac_holds : Rows.FnCompareFracSaid := fnCompareFrac.over
end Go.Proofs.Ytihogilepflegab
