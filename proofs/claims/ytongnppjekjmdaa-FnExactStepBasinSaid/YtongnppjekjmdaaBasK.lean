/- The laws' own copies and comparisons of basins. No condition. -/
import Derived.Test.YtongnppjekjmdaaBlk
namespace Go.Proofs.Ytongnppjekjmdaa
open Go.RowKit
/-- laws.toBasin -/
theorem ltoBasin (n d : Int) (w : World) :
    Calls Try.prog 15 #[.agg #[.int .i64 n, .int .i64 d]] w fun e w' => e = .returned (.agg #[.int .i64 n, .int .i64 d]) ∧ Below w.heap.size w w' := by
  go_enter Try.func15, Try.ntmps15
  go_wp2
  refine bodyPost_ret (v := .agg #[.int .i64 n, .int .i64 d]) (by simp [results, Try.results15, go_sem]) rfl ⟨rfl, by go_grown⟩
/-- laws.eqBasin of a basin and itself -/
theorem leqBasin (n d : Int) (w : World) :
    Calls Try.prog 19 #[.agg #[.int .i64 n, .int .i64 d], .agg #[.int .i64 n, .int .i64 d]] w fun e w' => e = .returned (.bool true) ∧ Below w.heap.size w w' := by
  go_enter Try.func19, Try.ntmps19
  go_wp2
  go_ret
  exact ⟨rfl, by go_grown⟩
end Go.Proofs.Ytongnppjekjmdaa
