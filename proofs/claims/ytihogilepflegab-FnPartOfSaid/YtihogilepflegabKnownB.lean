/- CompareFrac and PartOf where the result is known. Conditions: those stated. -/
import Derived.Test.YtihogilepflegabKnown
import Derived.Test.YtihogilepflegabPlainC
namespace Go.Proofs.Ytihogilepflegab
open Go.RowKit
theorem iCompare_is (an ad bn bd c : Int) (w : World) (h : Wsh.cmpF an ad bn bd = c) :
    Calls Try.prog 21 #[.agg #[.int .i64 an, .int .i64 ad], .agg #[.int .i64 bn, .int .i64 bd]] w fun e w' => e = .returned (.int .i64 c) ∧ Below w.heap.size w w' := by
  rw [← h]; exact iCompare an ad bn bd w
theorem iPart_is (n x d c : Int) (w : World) (h : Wsh.partI n x d = c) :
    Calls Try.prog 30 #[.int .i64 n, .agg #[.int .i64 x, .int .i64 d]] w fun e w' => e = .returned (.int .i64 c) ∧ Below w.heap.size w w' := by
  rw [← h]; exact iPart n x d w
theorem sCompare_is (an ad bn bd c : Int) (w : World) (h : Wsh.cmpF an ad bn bd = c) :
    Calls Try.prog 23 #[.agg #[.int .i64 an, .int .i64 ad], .agg #[.int .i64 bn, .int .i64 bd]] w fun e w' => e = .returned (.int .i64 c) ∧ Below w.heap.size w w' := by
  rw [← h]; exact sCompare an ad bn bd w
theorem sPart_is (n x d c : Int) (w : World) (h : Wsh.partI n x d = c) :
    Calls Try.prog 31 #[.int .i64 n, .agg #[.int .i64 x, .int .i64 d]] w fun e w' => e = .returned (.int .i64 c) ∧ Below w.heap.size w w' := by
  rw [← h]; exact sPart n x d w
end Go.Proofs.Ytihogilepflegab
