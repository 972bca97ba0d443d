/- Layer 5: the document's own answers: whole roots. -/
import Derived.Test.YtechcmjmdepglaaDoorRefpow
namespace Go.Proofs.YtechcmjmdepglaaDoor
open Go.RowKit
set_option linter.unusedVariables false
set_option linter.unusedSimpArgs false
theorem Gives.num {X L : Nat} {t : TypeId} {ys : List Nat} {w w' : World} {e : Ending} (h : Gives .u64 t ys w e w') (hn : NumAt X ys) (hl : ys.length ≤ L) : GivesNum X L w e w' := by
  obtain ⟨A, c, rfl, hr, hw, hb⟩ := h
  refine ⟨A, c, ys, rfl, hn, hl, hw, ?_, ?_, hb⟩
  · rcases hr.2 with ⟨e0, h0⟩ | ⟨g, cap, cur, e0, hbg, hg, hn, hm, _⟩
    · rw [h0]; exact Nat.zero_le _
    · injection e0 with _ e2 e3; subst e3; exact hn
  · rcases hr.2 with ⟨e0, h0⟩ | ⟨g, cap, cur, e0, hbg, hg, hn, hm, _⟩
    · injection e0 with _ e2 e3; subst e3; exact Nat.zero_le _
    · injection e0 with _ e2 e3; subst e3; exact hm
theorem le_powN {k n : Nat} (hn : 1 ≤ n) : k ≤ k ^ n := by
  rcases Nat.eq_zero_or_pos k with rfl | h
  · exact Nat.zero_le _
  · calc k = k ^ 1 := (Nat.pow_one k).symm
      _ ≤ k ^ n := Nat.pow_le_pow_right h hn
end Go.Proofs.YtechcmjmdepglaaDoor
