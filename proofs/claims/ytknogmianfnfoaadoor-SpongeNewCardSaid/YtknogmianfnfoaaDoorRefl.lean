/- Layer 2: the document's own answers (bit by bit): what each call tells. -/
import Derived.Test.YtknogmianfnfoaaDoorRows
import Derived.Test.YtknogmianfnfoaaDoorLong
namespace Go.Proofs.YtknogmianfnfoaaDoor.L64
open Go.RowKit
set_option linter.unusedVariables false

theorem tmod_by (n : Int) : ∃ t : Nat, turnBy 64 n = t ∧ t < 64 ∧ (n.tmod 64 = t ∨ (n.tmod 64 = (t : Int) - 64 ∧ 0 < t)) := by
  refine ⟨turnBy 64 n, rfl, turnBy_lt n (by omega), ?_⟩
  have h := @Int.tmod_eq_emod n 64
  unfold turnBy
  by_cases h0 : 0 ≤ n
  · rw [Int.tmod_eq_emod_of_nonneg h0]; left; omega
  · by_cases hd : (64 : Int) ∣ n
    · rw [if_pos (.inr hd)] at h; left; rw [h]; omega
    · rw [if_neg (by omega)] at h; right; rw [h]; simp; omega

end Go.Proofs.YtknogmianfnfoaaDoor.L64
