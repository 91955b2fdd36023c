/- What NewTown draws. No condition. -/
import Derived.Test.YtgmmdpdlekpmfaaGrA
namespace Go.Proofs.Ytgmmdpdlekpmfaa
open Go.RowKit
set_option linter.unusedSimpArgs false
set_option linter.unusedVariables false

def DrawnNew (w : World) (e : Ending) (w' : World) : Prop := ∃ o r rt : Int, e = .returned (.tuple #[.int .i64 o, .int .i64 r, .int .i64 rt]) ∧ Below w.heap.size w w'
set_option maxRecDepth 100000 in
set_option maxHeartbeats 4000000 in
theorem drawNewTown (a : Option Addr) (len cap : Nat) (zs : List Int) (w : World) (h : IsRow .u8 w a len cap zs) :
    Calls Try.prog 21 #[.slice a len cap] w (DrawnNew w) := by
  go_enter Try.func21, Try.ntmps21
  go_wp2_with fail
  refine (newReader_any a len cap zs _ h).mono ?_
  rintro e w1 ⟨rfl, R1, B1, hb1⟩
  clear h
  go_wp2_with fail
  refine (one_lit w.heap.size 5 _ (0) 1000 [1, 5, 999, 0, 1000] _ w1 R1 (by omega) hb1 rfl (by omega) (by omega) (by simp)).mono ?_
  rintro e w2 ⟨o, rfl, o0, o1, R2, G⟩
  have B2 := below_gv B1 G (fun q hq => by have := Option.some.inj hq; omega)
  have hb2 : w.heap.size < w2.heap.size := Nat.lt_of_lt_of_le hb1 G.size
  clear G R1
  go_wp2_with fail
  refine (one_lit w.heap.size 5 _ (-1) 20001 [30, 0, 20000, 20001, -1] _ w2 R2 (by omega) hb2 rfl (by omega) (by omega) (by simp)).mono ?_
  rintro e w3 ⟨r, rfl, r0, r1, R3, G⟩
  have B3 := below_gv B2 G (fun q hq => by have := Option.some.inj hq; omega)
  have hb3 : w.heap.size < w3.heap.size := Nat.lt_of_lt_of_le hb2 G.size
  clear G R2
  go_wp2_with fail
  refine (one_lit w.heap.size 4 _ (0) 501 [15, 0, 500, 501] _ w3 R3 (by omega) hb3 rfl (by omega) (by omega) (by simp)).mono ?_
  rintro e w4 ⟨t, rfl, t0, t1, R4, G⟩
  have B4 := below_gv B3 G (fun q hq => by have := Option.some.inj hq; omega)
  have hb4 : w.heap.size < w4.heap.size := Nat.lt_of_lt_of_le hb3 G.size
  clear G R3
  go_wp2_with fail
  go_returns
  exact ⟨o, r, t, rfl, B4⟩
end Go.Proofs.Ytgmmdpdlekpmfaa
