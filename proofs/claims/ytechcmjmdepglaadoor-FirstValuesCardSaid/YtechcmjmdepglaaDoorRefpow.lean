/- Layer 5: the document's own answers: powers of numbers in digits. -/
import Derived.Test.YtechcmjmdepglaaDoorRefmul
namespace Go.Proofs.YtechcmjmdepglaaDoor
open Go.RowKit
set_option linter.unusedVariables false
set_option linter.unusedSimpArgs false
/-- What a call gives: a number's digits. -/
def GivesNum (X L : Nat) (w : World) (e : Ending) (w' : World) : Prop := ∃ A c zs, e = .returned (.slice A zs.length c) ∧ NumAt X zs ∧ zs.length ≤ L ∧ Words .u64 w' A zs ∧ zs.length ≤ c ∧ c ≤ maxLen ∧ Below w.heap.size w w'
end Go.Proofs.YtechcmjmdepglaaDoor
