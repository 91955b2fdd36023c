/- The laws' own copies and comparisons of fractions. No condition. -/
import Derived.Test.YtdlbjmhjaljlfaaValid
namespace Go.Proofs.Ytdlbjmhjaljlfaa
open Go.RowKit

/-- laws.toFrac -/
theorem ltoFrac (n d : Int) (w : World) :
    Calls Try.prog 116 #[.agg #[.int .i64 n, .int .i64 d]] w fun e w' => e = .returned (.agg #[.int .i64 n, .int .i64 d]) ∧ Below w.heap.size w w' := by
  go_enter Try.func116, Try.ntmps116
  go_wp2
  refine bodyPost_ret (v := .agg #[.int .i64 n, .int .i64 d]) (by simp [results, Try.results116, go_sem]) rfl ⟨rfl, by go_grown⟩

/-- laws.eqFrac of a fraction and itself -/
theorem leqFrac (n d : Int) (w : World) :
    Calls Try.prog 117 #[.agg #[.int .i64 n, .int .i64 d], .agg #[.int .i64 n, .int .i64 d]] w fun e w' => e = .returned (.bool true) ∧ Below w.heap.size w w' := by
  go_enter Try.func117, Try.ntmps117
  go_wp2
  go_ret
  exact ⟨rfl, by go_grown⟩
end Go.Proofs.Ytdlbjmhjaljlfaa
