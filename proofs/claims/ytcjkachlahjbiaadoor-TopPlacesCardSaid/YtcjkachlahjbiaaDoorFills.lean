/- Package sizes: Fills, and the document's; the laws' small check. No condition but that the tables lie as the start lays them. -/
import Derived.Test.YtcjkachlahjbiaaDoorFirst
namespace Go.Proofs.YtcjkachlahjbiaaDoor
open Go.RowKit
set_option linter.unusedVariables false
end Go.Proofs.YtcjkachlahjbiaaDoor
