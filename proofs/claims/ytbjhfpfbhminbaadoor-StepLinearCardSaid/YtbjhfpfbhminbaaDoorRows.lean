/-
  NARROWER THAN 'FOR EVERY INPUT', by the rows' own cells (each row's printed sentence says how): StepLinear: laid · StepChi: laid · StepOffsets: laid · StepMoves: laid · StepRows: laid.
  DERIVED. THE GIVEN ROWS OF THIS SEAT. 5 by the template 'for every input the law returns true; each argument reads behind the call as it read before'; 0 by the template 'total and deterministic' (their statements: YtbjhfpfbhminbaaDoorTotals.lean).
  GIVEN WITH THE SEED: the statements are not yours to turn. If you find one false, say at which input.
  Laid BY PROGRAM, IN A SANDBOX (cutbox-rows.mjs): the forced cells as the released guide's own fill.sh prints them over the translation eff8189063b4c56b… (all of the seat's roots in one cut). By AI agents, Wed Nov 11 2026. No macro, syntax, notation, axiom, sorry.
-/
import Derived.Test.YtbjhfpfbhminbaaDoorChecked
import GoSem.Claim
import GoSem.ClaimJoined
import GoSem.ClaimMapViews
import Derived.JoinedTies
import Derived.KernelRfl
namespace Go.Proofs.YtbjhfpfbhminbaaDoor
/- THE CELL 'sum', in the pinned program and in every row, IS THE sha256 OF THE DUMP (.gsa) THAT YtbjhfpfbhminbaaDoorProg.lean LOADS. Nothing in Lean hashes anything: it is a label: what it is worth is what the hold of that sum in a sandbox is worth. -/
noncomputable def Tryd.pinned : Pinned := { name := "ytbjhfpfbhminbaadoor", sum := "eff8189063b4c56be409b66ed6ecd0c01a20315699fb3b432745dac10a065030", checked := Tryd.checked }
namespace Rows
def none {H : Type} : Left H := { results := [], args := [] }

/- WHAT THE LISTED PACKAGE-LEVEL VARIABLES READ AS WHEN THE CALL BEGINS. Each datum BY PROGRAM (the guide's laid-datum.mjs) off the statement by which the dump's own 'gosem.cut.vars' lays the variable. In a bare row this is a premise. The card (YtbjhfpfbhminbaaDoorCards.lean) ties it to the program's text. -/
def laid_cribble_step_offsets {H : Type} : DataW H := .agg [.agg [.lit (.int .i64 0), .lit (.int .i64 1), .lit (.int .i64 62), .lit (.int .i64 28), .lit (.int .i64 27)], .agg [.lit (.int .i64 36), .lit (.int .i64 44), .lit (.int .i64 6), .lit (.int .i64 55), .lit (.int .i64 20)], .agg [.lit (.int .i64 3), .lit (.int .i64 10), .lit (.int .i64 43), .lit (.int .i64 25), .lit (.int .i64 39)], .agg [.lit (.int .i64 41), .lit (.int .i64 45), .lit (.int .i64 15), .lit (.int .i64 21), .lit (.int .i64 8)], .agg [.lit (.int .i64 18), .lit (.int .i64 2), .lit (.int .i64 61), .lit (.int .i64 56), .lit (.int .i64 14)]]

/-- 'cribblelaw12.StepLinear': WHATEVER THE INPUT: true; the input reads as it did. -/
def stepLinearSpec : ChangeSpec := { name := "stepLinear", fn := fun _ => fun
  | [d1, d2] => { results := [.lit (.bool true)], args := [d1, d2] }
  | _ => none }
def stepLinearRow : OpenClaim := { program := "ytbjhfpfbhminbaadoor", sum := "eff8189063b4c56be409b66ed6ecd0c01a20315699fb3b432745dac10a065030", func := "cribble/cribblelaw12.StepLinear", spec := "stepLinear", named := ["cribble/step.offsets"], apart := false, laid := [("cribble/step.offsets", laid_cribble_step_offsets)] }
def StepLinearSaid : Prop := stepLinearRow.holds Tryd.pinned (OpenSpec.ofChange stepLinearSpec)

/-- ITS FALSE NEIGHBOUR: 'it returns false'. Refute it at one input. -/
def stepLinearWrong : ChangeSpec := { name := "stepLinear", fn := fun _ => fun
  | [d1, d2] => { results := [.lit (.bool false)], args := [d1, d2] }
  | _ => none }
def StepLinearWrongFalsely : Prop := stepLinearRow.holds Tryd.pinned (OpenSpec.ofChange stepLinearWrong)

/-- 'cribblelaw12.StepChi': WHATEVER THE INPUT: true; the input reads as it did. -/
def stepChiSpec : ChangeSpec := { name := "stepChi", fn := fun _ => fun
  | [d1, d2] => { results := [.lit (.bool true)], args := [d1, d2] }
  | _ => none }
def stepChiRow : OpenClaim := { program := "ytbjhfpfbhminbaadoor", sum := "eff8189063b4c56be409b66ed6ecd0c01a20315699fb3b432745dac10a065030", func := "cribble/cribblelaw12.StepChi", spec := "stepChi", named := ["cribble/step.offsets"], apart := false, laid := [("cribble/step.offsets", laid_cribble_step_offsets)] }
def StepChiSaid : Prop := stepChiRow.holds Tryd.pinned (OpenSpec.ofChange stepChiSpec)

/-- ITS FALSE NEIGHBOUR: 'it returns false'. Refute it at one input. -/
def stepChiWrong : ChangeSpec := { name := "stepChi", fn := fun _ => fun
  | [d1, d2] => { results := [.lit (.bool false)], args := [d1, d2] }
  | _ => none }
def StepChiWrongFalsely : Prop := stepChiRow.holds Tryd.pinned (OpenSpec.ofChange stepChiWrong)

/-- 'cribblelaw12.StepOffsets': WHATEVER THE INPUT: true; the input reads as it did. -/
def stepOffsetsSpec : ChangeSpec := { name := "stepOffsets", fn := fun _ => fun
  | [d1, d2] => { results := [.lit (.bool true)], args := [d1, d2] }
  | _ => none }
def stepOffsetsRow : OpenClaim := { program := "ytbjhfpfbhminbaadoor", sum := "eff8189063b4c56be409b66ed6ecd0c01a20315699fb3b432745dac10a065030", func := "cribble/cribblelaw12.StepOffsets", spec := "stepOffsets", named := ["cribble/step.offsets"], apart := false, laid := [("cribble/step.offsets", laid_cribble_step_offsets)] }
def StepOffsetsSaid : Prop := stepOffsetsRow.holds Tryd.pinned (OpenSpec.ofChange stepOffsetsSpec)

/-- ITS FALSE NEIGHBOUR: 'it returns false'. Refute it at one input. -/
def stepOffsetsWrong : ChangeSpec := { name := "stepOffsets", fn := fun _ => fun
  | [d1, d2] => { results := [.lit (.bool false)], args := [d1, d2] }
  | _ => none }
def StepOffsetsWrongFalsely : Prop := stepOffsetsRow.holds Tryd.pinned (OpenSpec.ofChange stepOffsetsWrong)

/-- 'cribblelaw12.StepMoves': WHATEVER THE INPUT: true; the input reads as it did. -/
def stepMovesSpec : ChangeSpec := { name := "stepMoves", fn := fun _ => fun
  | [d] => { results := [.lit (.bool true)], args := [d] }
  | _ => none }
def stepMovesRow : OpenClaim := { program := "ytbjhfpfbhminbaadoor", sum := "eff8189063b4c56be409b66ed6ecd0c01a20315699fb3b432745dac10a065030", func := "cribble/cribblelaw12.StepMoves", spec := "stepMoves", named := ["cribble/step.offsets"], apart := false, laid := [("cribble/step.offsets", laid_cribble_step_offsets)] }
def StepMovesSaid : Prop := stepMovesRow.holds Tryd.pinned (OpenSpec.ofChange stepMovesSpec)

/-- ITS FALSE NEIGHBOUR: 'it returns false'. Refute it at one input. -/
def stepMovesWrong : ChangeSpec := { name := "stepMoves", fn := fun _ => fun
  | [d] => { results := [.lit (.bool false)], args := [d] }
  | _ => none }
def StepMovesWrongFalsely : Prop := stepMovesRow.holds Tryd.pinned (OpenSpec.ofChange stepMovesWrong)

/-- 'cribblelaw12.StepRows': WHATEVER THE INPUT: true; the input reads as it did. -/
def stepRowsSpec : ChangeSpec := { name := "stepRows", fn := fun _ => fun
  | [d1, d2, d3] => { results := [.lit (.bool true)], args := [d1, d2, d3] }
  | _ => none }
def stepRowsRow : OpenClaim := { program := "ytbjhfpfbhminbaadoor", sum := "eff8189063b4c56be409b66ed6ecd0c01a20315699fb3b432745dac10a065030", func := "cribble/cribblelaw12.StepRows", spec := "stepRows", named := ["cribble/step.offsets"], apart := false, laid := [("cribble/step.offsets", laid_cribble_step_offsets)] }
def StepRowsSaid : Prop := stepRowsRow.holds Tryd.pinned (OpenSpec.ofChange stepRowsSpec)

/-- ITS FALSE NEIGHBOUR: 'it returns false'. Refute it at one input. -/
def stepRowsWrong : ChangeSpec := { name := "stepRows", fn := fun _ => fun
  | [d1, d2, d3] => { results := [.lit (.bool false)], args := [d1, d2, d3] }
  | _ => none }
def StepRowsWrongFalsely : Prop := stepRowsRow.holds Tryd.pinned (OpenSpec.ofChange stepRowsWrong)

/- THE SECOND FORM. 'bulk': how many values and letters a reading holds, each counted each time it is reached (what is shared counts as often as it is met; a slice's spare places count too). A statement '..UptoSaid' is the law's where the arguments, and the package variables that the reading takes, are together of bulk at most 1048576: NARROWER than '..Said'. Prove '..Said' where nothing that the law and all that it calls make is longer than what came in: it says more and counts as full. Else prove '..UptoSaid'. A law counts once. -/
mutual
def uptoBulk {H : Type} : DataW H → Nat
  | .lit (.string bytes) => bytes.length + 1
  | .lit _ => 1
  | .nil => 1
  | .ptr d => uptoBulk d + 1
  | .slice elems spare => uptoBulkAll elems + uptoBulkAll spare + 1
  | .agg parts => uptoBulkAll parts + 1
  | .iface _ d => uptoBulk d + 1
  | .map entries => uptoBulkEntries entries + 1
  | .held _ => 1
def uptoBulkAll {H : Type} : List (DataW H) → Nat
  | [] => 0
  | d :: r => uptoBulk d + uptoBulkAll r
def uptoBulkEntries {H : Type} : List (Lit × DataW H) → Nat
  | [] => 0
  | x :: r => uptoBulkEntry x + uptoBulkEntries r
def uptoBulkEntry {H : Type} : Lit × DataW H → Nat
  | (.string bytes, d) => bytes.length + uptoBulk d + 1
  | (_, d) => uptoBulk d + 1
 end
def uptoSmall : (H : Type) → List (DataW H) → Bool := fun _ ds => decide (uptoBulkAll ds ≤ 1048576)
def OpenSpec.upto (s : _root_.Go.ChangeSpec) : _root_.Go.OpenSpec := { _root_.Go.OpenSpec.ofChange s with cond := some uptoSmall }

/-- 'cribblelaw12.StepLinear', WHERE WHAT IT READS IS OF BULK AT MOST 1048576: true; the input reads as it did. -/
def stepLinearUptoRow : OpenClaim := { program := "ytbjhfpfbhminbaadoor", sum := "eff8189063b4c56be409b66ed6ecd0c01a20315699fb3b432745dac10a065030", func := "cribble/cribblelaw12.StepLinear", spec := "stepLinear", named := ["cribble/step.offsets"], apart := false, laid := [("cribble/step.offsets", laid_cribble_step_offsets)], narrowed := true }
def StepLinearUptoSaid : Prop := stepLinearUptoRow.holds Tryd.pinned (OpenSpec.upto stepLinearSpec)

/-- 'cribblelaw12.StepChi', WHERE WHAT IT READS IS OF BULK AT MOST 1048576: true; the input reads as it did. -/
def stepChiUptoRow : OpenClaim := { program := "ytbjhfpfbhminbaadoor", sum := "eff8189063b4c56be409b66ed6ecd0c01a20315699fb3b432745dac10a065030", func := "cribble/cribblelaw12.StepChi", spec := "stepChi", named := ["cribble/step.offsets"], apart := false, laid := [("cribble/step.offsets", laid_cribble_step_offsets)], narrowed := true }
def StepChiUptoSaid : Prop := stepChiUptoRow.holds Tryd.pinned (OpenSpec.upto stepChiSpec)

/-- 'cribblelaw12.StepOffsets', WHERE WHAT IT READS IS OF BULK AT MOST 1048576: true; the input reads as it did. -/
def stepOffsetsUptoRow : OpenClaim := { program := "ytbjhfpfbhminbaadoor", sum := "eff8189063b4c56be409b66ed6ecd0c01a20315699fb3b432745dac10a065030", func := "cribble/cribblelaw12.StepOffsets", spec := "stepOffsets", named := ["cribble/step.offsets"], apart := false, laid := [("cribble/step.offsets", laid_cribble_step_offsets)], narrowed := true }
def StepOffsetsUptoSaid : Prop := stepOffsetsUptoRow.holds Tryd.pinned (OpenSpec.upto stepOffsetsSpec)

/-- 'cribblelaw12.StepMoves', WHERE WHAT IT READS IS OF BULK AT MOST 1048576: true; the input reads as it did. -/
def stepMovesUptoRow : OpenClaim := { program := "ytbjhfpfbhminbaadoor", sum := "eff8189063b4c56be409b66ed6ecd0c01a20315699fb3b432745dac10a065030", func := "cribble/cribblelaw12.StepMoves", spec := "stepMoves", named := ["cribble/step.offsets"], apart := false, laid := [("cribble/step.offsets", laid_cribble_step_offsets)], narrowed := true }
def StepMovesUptoSaid : Prop := stepMovesUptoRow.holds Tryd.pinned (OpenSpec.upto stepMovesSpec)

/-- 'cribblelaw12.StepRows', WHERE WHAT IT READS IS OF BULK AT MOST 1048576: true; the input reads as it did. -/
def stepRowsUptoRow : OpenClaim := { program := "ytbjhfpfbhminbaadoor", sum := "eff8189063b4c56be409b66ed6ecd0c01a20315699fb3b432745dac10a065030", func := "cribble/cribblelaw12.StepRows", spec := "stepRows", named := ["cribble/step.offsets"], apart := false, laid := [("cribble/step.offsets", laid_cribble_step_offsets)], narrowed := true }
def StepRowsUptoSaid : Prop := stepRowsUptoRow.holds Tryd.pinned (OpenSpec.upto stepRowsSpec)

end Rows
end Go.Proofs.YtbjhfpfbhminbaaDoor
