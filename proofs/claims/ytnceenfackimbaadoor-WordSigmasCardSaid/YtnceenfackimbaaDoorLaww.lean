/- Layer 1: the laws: each walk ends with true. -/
import Derived.Test.YtnceenfackimbaaDoorWord
import Derived.Test.YtnceenfackimbaaDoorRefw
namespace Go.Proofs.YtnceenfackimbaaDoor
open Go.RowKit
set_option linter.unusedVariables false

theorem wake1 : rot 32 1 (turnBy 32 1) = 2147483648 := by decide +kernel
theorem wake2 : chN 4278255360 305419896 2596069104 = 314332912 := by decide +kernel

set_option maxHeartbeats 400000 in
theorem wakes_any (w : World) : Calls Tryd.prog 5 #[] w fun e w' => e = .returned (.bool true) ∧ w = w' := by
  go_enter Tryd.func5, Tryd.ntmps5
  go_wp2_with (first
    | (go_at_call 10; refine (turn_any 1 (by omega) 1 _).mono ?_; rintro e w' ⟨rfl, rfl⟩; rw [wake1])
    | (go_at_call 11; refine (ch_any 4278255360 305419896 2596069104 (by omega) (by omega) (by omega) _).mono ?_; rintro e w' ⟨rfl, rfl⟩; rw [wake2]))
  go_ret
  exact ⟨rfl, rfl⟩


end Go.Proofs.YtnceenfackimbaaDoor
