/- The two loops for the greatest common divisor return it. Condition: both numbers are at least 0. -/
import Derived.Test.YtfdgaobdlibfpaaBase
import Derived.Test.YtfdgaobdlibfpaaPlain
namespace Go.Proofs.Ytfdgaobdlibfpaa
open Go.RowKit


end Go.Proofs.Ytfdgaobdlibfpaa
