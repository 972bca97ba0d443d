/- slices.Reverse over bytes. -/
import Derived.Test.YthdnolhbefikoaaRows
import Derived.Test.YthdnolhbefikoaaBytes
import Derived.Lib.OwnBridge
import Derived.Lib.SlicesMore
import Derived.Sort.WalkB12
import Derived.Deep.LoopGhost
import Derived.Shelf.RegionOpenPlain
namespace Go.Proofs.Ythdnolhbefikoaa
open Go.RowKit
set_option linter.unusedVariables false
end Go.Proofs.Ythdnolhbefikoaa
