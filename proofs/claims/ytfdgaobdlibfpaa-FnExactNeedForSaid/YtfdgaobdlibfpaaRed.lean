/- impl.reduced. Conditions: a denominator from 1 to 100000000. -/
import Derived.Test.YtfdgaobdlibfpaaRedS
namespace Go.Proofs.Ytfdgaobdlibfpaa
open Go.RowKit

end Go.Proofs.Ytfdgaobdlibfpaa
