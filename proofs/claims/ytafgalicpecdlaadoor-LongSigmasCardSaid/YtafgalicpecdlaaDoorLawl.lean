/- Layer 2: the laws: each walk ends with true. -/
import Derived.Test.YtafgalicpecdlaaDoorLong
import Derived.Test.YtafgalicpecdlaaDoorRefl
namespace Go.Proofs.YtafgalicpecdlaaDoor.L64
open Go.RowKit
set_option linter.unusedVariables false

theorem wake1 : rot 64 1 (turnBy 64 1) = 9223372036854775808 := by decide +kernel
theorem wake2 : majN 255 240 0 = 240 := by decide +kernel

set_option maxRecDepth 100000 in
set_option maxHeartbeats 400000 in
theorem wakes_any (w : World) : Calls Tryd.prog 5 #[] w fun e w' => e = .returned (.bool true) ∧ w = w' := by
  go_enter Tryd.func5, Tryd.ntmps5
  go_wp2_with (first
    | (go_at_call 10; refine (turn_any 1 (by omega) 1 _).mono ?_; rintro e w' ⟨rfl, rfl⟩; rw [wake1])
    | (go_at_call 11; refine (maj_any 255 240 0 (by omega) (by omega) (by omega) _).mono ?_; rintro e w' ⟨rfl, rfl⟩; rw [wake2]))
  go_ret
  exact ⟨rfl, rfl⟩


end Go.Proofs.YtafgalicpecdlaaDoor.L64
