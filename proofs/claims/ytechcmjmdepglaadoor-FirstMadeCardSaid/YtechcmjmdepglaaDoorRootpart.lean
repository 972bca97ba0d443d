/- Layer 5: the law on roots, whole, and behind the point. -/
import Derived.Test.YtechcmjmdepglaaDoorBund
namespace Go.Proofs.YtechcmjmdepglaaDoor
open Go.RowKit
set_option linter.unusedVariables false
set_option linter.unusedSimpArgs false
theorem whole_le {r s n p : Nat} (h1 : r ^ n ≤ p) (h2 : p < (s + 1) ^ n) : r ≤ s := by
  rcases Nat.lt_or_ge s r with h | h
  · exact absurd (Nat.pow_le_pow_left (show s + 1 ≤ r from h) n) (by omega)
  · exact h
theorem whole_uniq {r s n p : Nat} (h1 : r ^ n ≤ p) (h2 : p < (r + 1) ^ n) (h3 : s ^ n ≤ p) (h4 : p < (s + 1) ^ n) : r = s := Nat.le_antisymm (whole_le h1 h4) (whole_le h3 h2)
end Go.Proofs.YtechcmjmdepglaaDoor
