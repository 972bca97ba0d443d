/- Layer 12: the document's own answers: places, exclusive-or, the rounds' constants. -/
import Derived.Test.YtknogmianfnfoaaDoorRefl
import Derived.Deep.LoopGhost
namespace Go.Proofs.YtknogmianfnfoaaDoor.L64
open Go.RowKit
set_option linter.unusedVariables false
set_option linter.unusedSimpArgs false
def placeN (x y : Nat) : Nat := x % 5 + 5 * (y % 5)
theorem placeN_lt (x y : Nat) : placeN x y < 25 := by unfold placeN; omega
/-- The register behind n steps. -/
def rcS : Nat → Nat
  | 0 => 1
  | n + 1 => if 256 ≤ 2 * rcS n then (2 * rcS n - 256) ^^^ 113 else 2 * rcS n
theorem rcS_lt : ∀ n, rcS n < 256
  | 0 => by decide
  | n + 1 => by
    have ih := rcS_lt n
    show (if 256 ≤ 2 * rcS n then (2 * rcS n - 256) ^^^ 113 else 2 * rcS n) < 256
    split
    · exact Nat.xor_lt_two_pow (n := 8) (by omega) (by omega)
    · omega
def rcN (t : Nat) : Nat := rcS (t % 255) % 2
theorem rcN_lt (t : Nat) : rcN t < 2 := Nat.mod_lt _ (by omega)
end Go.Proofs.YtknogmianfnfoaaDoor.L64
