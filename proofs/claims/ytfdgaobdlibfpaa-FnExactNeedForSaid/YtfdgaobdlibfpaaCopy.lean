/- The laws' own copies and comparisons of fractions. No condition. -/
import Derived.Test.YtfdgaobdlibfpaaValid
namespace Go.Proofs.Ytfdgaobdlibfpaa
open Go.RowKit

end Go.Proofs.Ytfdgaobdlibfpaa
