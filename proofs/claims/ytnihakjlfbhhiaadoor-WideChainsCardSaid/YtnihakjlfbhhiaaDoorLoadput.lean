/- Layer 3: load: bytes of words, exclusive-or. -/
import Derived.Test.YtnihakjlfbhhiaaDoorLoad
namespace Go.Proofs.YtnihakjlfbhhiaaDoor
open Go.RowKit
set_option linter.unusedVariables false

theorem u8_info1 : (Tryd.prog.info? 5).map (fun i => (i.zero, i.size, i.bytes)) = some (some (.int .u8 0), 1, 1) := by kernel_rfl
/-- A byte of a word, shifted to the right. -/
theorem byte_of (x j : Nat) : ((x / 256 ^ j % 256 : Nat) : Int) = (x : Int) / 2 ^ (8 * j) % 256 := by
  have e : (256 : Nat) ^ j = 2 ^ (8 * j) := by rw [Nat.pow_mul]
  rw [e]; simp
end Go.Proofs.YtnihakjlfbhhiaaDoor
