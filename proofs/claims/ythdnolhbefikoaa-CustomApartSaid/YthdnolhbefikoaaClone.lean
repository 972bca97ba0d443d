/- slices.Clone of bytes. -/
import Derived.Test.YthdnolhbefikoaaRefload
import Derived.Test.YthdnolhbefikoaaAppb
namespace Go.Proofs.Ythdnolhbefikoaa
open Go.RowKit
set_option linter.unusedVariables false
set_option linter.unusedSimpArgs false
theorem run_nil_yes (l c : Nat) (w : World) : (binOp .eql 22 (.slice none l c) (.slice none 0 0)).run Try.prog w = .ok (.bool true) w := by kernel_rfl
theorem run_nil_no (a : Addr) (l c : Nat) (w : World) : (binOp .eql 22 (.slice (some a) l c) (.slice none 0 0)).run Try.prog w = .ok (.bool false) w := by kernel_rfl
attribute [local go_sem ↓] run_nil_yes run_nil_no
end Go.Proofs.Ythdnolhbefikoaa
