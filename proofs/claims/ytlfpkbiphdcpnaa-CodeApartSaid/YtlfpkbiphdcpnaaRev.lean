/- slices.Reverse over bytes. -/
import Derived.Test.YtlfpkbiphdcpnaaRows
import Derived.Test.YtlfpkbiphdcpnaaBytes
import Derived.Lib.OwnBridge
import Derived.Lib.SlicesMore
import Derived.Sort.WalkB12
import Derived.Deep.LoopGhost
import Derived.Shelf.RegionOpenPlain
namespace Go.Proofs.Ytlfpkbiphdcpnaa
open Go.RowKit
set_option linter.unusedVariables false
end Go.Proofs.Ytlfpkbiphdcpnaa
