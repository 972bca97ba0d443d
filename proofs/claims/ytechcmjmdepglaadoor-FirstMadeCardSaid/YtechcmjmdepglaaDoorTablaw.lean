/- Layer 6: the laws on the long table. -/
import Derived.Test.YtechcmjmdepglaaDoorTable
import Derived.Test.YtechcmjmdepglaaDoorPrimes
import Derived.Test.YtechcmjmdepglaaDoorBund
import Derived.Deep.RegionHeld3
namespace Go.Proofs.YtechcmjmdepglaaDoor
open Go.RowKit
set_option linter.unusedVariables false
set_option linter.unusedSimpArgs false
theorem kCells : (cellsOf .u64 kL).toArray = uTab 80 kN := uTab_cells kL
set_option maxRecDepth 20000 in
set_option maxHeartbeats 1000000 in
theorem refK64_any (w : World) : Calls Tryd.prog 19 #[] w fun e w' => e = .returned (.slice (some ⟨w.heap.size, 0, none⟩) 80 80) ∧ w' = w.alloc (.cells (uTab 80 kN) 23) := by
  go_enter Tryd.func19, Tryd.ntmps19
  go_wp2
  go_ret
  exact ⟨rfl, congrArg (fun c => w.alloc (.cells c 23)) (by kernel_rfl)⟩
end Go.Proofs.YtechcmjmdepglaaDoor
