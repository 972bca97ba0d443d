/- A slice of bytes, cut, with one bound: as one step. -/
import Derived.Test.YthdnolhbefikoaaCut
namespace Go.Proofs.Ythdnolhbefikoaa
open Go.RowKit
set_option linter.unusedVariables false
set_option linter.unusedSimpArgs false
/-- Where a cut slice begins. -/
def cutA (A : Option Addr) (c l : Nat) : Option Addr := if c = l then A else A.map (·.add (l * 1))
theorem cutA_words {w : World} {A : Option Addr} {c l : Nat} {xs : List Nat} (hw : Words .u8 w A xs) (hlc : xs.length ≤ c) : Words .u8 w (cutA A c l) (xs.drop l) := fun i hi => by
  have hi' : l + i < xs.length := by rw [List.length_drop] at hi; omega
  obtain ⟨b, o, rfl, hc⟩ := hw (l + i) hi'
  unfold cutA
  rw [if_neg (by omega)]
  refine ⟨b, o + l, by simp [addr_add], ?_⟩
  rw [getD_drop, Nat.add_assoc]
  exact hc
theorem words_takeN {k : IntKind} {w : World} {A : Option Addr} {xs : List Nat} (h : Words k w A xs) (n : Nat) : Words k w A (xs.take n) := fun i hi => by
  have hi' : i < n ∧ i < xs.length := by rw [List.length_take] at hi; omega
  obtain ⟨b, o, e, hc⟩ := h i hi'.2
  exact ⟨b, o, e, by rw [getD_take _ _ _ hi'.1]; exact hc⟩
theorem cut_to_run (A : Option Addr) (n c h : Nat) (hh : h ≤ c) (w : World) :
    (cutAt 22 (.slice A n c) none (some (.int .i64 (h : Nat))) none).run Try.prog w = .ok (.slice (cutA A c 0) h c) w := by
  unfold cutAt Instr.sliceAt cutA
  rw [Sem.run_bind, run_underlying Try.underlying22 w]
  have h1 : (0 : Int) ≤ (h : Int) := by omega
  simp [Result.andThen, Instr.slice, Sem.run_bind, run_underlying Try.underlying22 w, Instr.sliceBounds, Instr.sliceBound, asIntOf, hh]
theorem cut_from_run (A : Option Addr) (n c l : Nat) (hl : l ≤ n) (w : World) :
    (cutAt 22 (.slice A n c) (some (.int .i64 (l : Nat))) none none).run Try.prog w = .ok (.slice (cutA A c l) (n - l) (c - l)) w := by
  unfold cutAt Instr.sliceAt cutA
  rw [Sem.run_bind, run_underlying Try.underlying22 w]
  have h1 : (0 : Int) ≤ (l : Int) := by omega
  simp [Result.andThen, Instr.slice, Sem.run_bind, run_underlying Try.underlying22 w, Instr.sliceBounds, Instr.sliceBound, asIntOf, hl]
end Go.Proofs.Ythdnolhbefikoaa
