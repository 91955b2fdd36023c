/- The laws' own copies and comparisons of fractions. No condition. -/
import Derived.Test.YtlpmeljneogpiaaGrA
namespace Go.Proofs.Ytlpmeljneogpiaa
open Go.RowKit

end Go.Proofs.Ytlpmeljneogpiaa
