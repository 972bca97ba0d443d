/- The long table and what tells it, without the theory of roots (made by tools/genktab.py); where table.First is there: the whole theory. -/
import Derived.Test.YtechcmjmdepglaaDoorTablaw
import Derived.Test.YtechcmjmdepglaaDoorRows
import Derived.Test.YtechcmjmdepglaaDoorBytes
import Derived.WalkMore
import Derived.Deep.LoopGhost
namespace Go.Proofs.YtechcmjmdepglaaDoor
open Go.RowKit
theorem RowOk.below {w w' : World} {n k B : Nat} (h : RowOk w n k) (hb : Below B w w') (hn : n < B) : RowOk w' n k := by
  obtain ⟨c, t, hg, hs⟩ := h
  exact ⟨c, t, (hb.block n hn).trans hg, hs⟩
end Go.Proofs.YtechcmjmdepglaaDoor
