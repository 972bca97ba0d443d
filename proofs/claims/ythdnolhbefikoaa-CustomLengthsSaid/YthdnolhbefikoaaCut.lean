/- A slice of bytes, cut: as one step. -/
import Derived.Test.YthdnolhbefikoaaRows
import Derived.Test.YthdnolhbefikoaaBytes
namespace Go.Proofs.Ythdnolhbefikoaa
open Go.RowKit
set_option linter.unusedVariables false
set_option linter.unusedSimpArgs false
/-- A cut of a slice of bytes, kept from the walk's unfolding. -/
def cutAt (ty : TypeId) (x : Value) (l h m : Option Value) : Sem Value := Instr.sliceAt ty x l h m
theorem cut_hide (x : Value) (l h m : Option Value) : Instr.sliceAt 22 x l h m = cutAt 22 x l h m := rfl
theorem cut_any (w : World) (A : Option Addr) (c : Nat) (xs : List Nat) (hw : Words .u8 w A xs) (hlc : xs.length ≤ c) (hcm : c ≤ maxLen) (l h : Nat) (hl : l ≤ h) (hh : h ≤ xs.length) :
    ∃ A', (cutAt 22 (.slice A xs.length c) (some (.int .i64 (l : Nat))) (some (.int .i64 (h : Nat))) none).run Try.prog w = .ok (.slice A' (h - l) (c - l)) w ∧ Words .u8 w A' ((xs.drop l).take (h - l)) := by
  unfold maxLen at hcm
  refine ⟨if c = l then A else A.map (·.add (l * 1)), ?_, ?_⟩
  · unfold cutAt Instr.sliceAt
    rw [Sem.run_bind, run_underlying Try.underlying22 w]
    have h1 : (0 : Int) ≤ (h : Int) := by omega
    have h2 : (h : Int) ≤ (c : Int) := by omega
    have h3 : (0 : Int) ≤ (l : Int) := by omega
    have h4 : (l : Int) ≤ (h : Int) := by omega
    simp [Result.andThen, Instr.slice, Sem.run_bind, run_underlying Try.underlying22 w, Instr.sliceBounds, Instr.sliceBound, asIntOf, show h ≤ c by omega, hl]
  · intro i hi
    have hi' : i < h - l := by simp at hi; omega
    obtain ⟨b, o, rfl, hc⟩ := hw (l + i) (by omega)
    rw [if_neg (by omega)]
    refine ⟨b, o + l, by simp [addr_add], ?_⟩
    rw [getD_take _ _ _ hi', getD_drop, Nat.add_assoc]
    exact hc
end Go.Proofs.Ythdnolhbefikoaa
