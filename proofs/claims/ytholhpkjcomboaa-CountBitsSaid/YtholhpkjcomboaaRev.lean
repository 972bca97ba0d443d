/- slices.Reverse over bytes. -/
import Derived.Test.YtholhpkjcomboaaRows
import Derived.Test.YtholhpkjcomboaaBytes
import Derived.Lib.OwnBridge
import Derived.Lib.SlicesMore
import Derived.Sort.WalkB12
import Derived.Deep.LoopGhost
import Derived.Shelf.RegionOpenPlain
namespace Go.Proofs.Ytholhpkjcomboaa
open Go.RowKit
set_option linter.unusedVariables false
end Go.Proofs.Ytholhpkjcomboaa
