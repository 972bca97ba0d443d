/-
  NARROWER THAN 'FOR EVERY INPUT', by the rows' own cells (each row's printed sentence says how): LongSigmas: laid · LongLinear: laid.
  DERIVED. THE GIVEN ROWS OF THIS SEAT. 2 by the template 'for every input the law returns true; each argument reads behind the call as it read before'; 0 by the template 'total and deterministic' (their statements: YtafgalicpecdlaaDoorTotals.lean).
  GIVEN WITH THE SEED: the statements are not yours to turn. If you find one false, say at which input.
  Laid BY PROGRAM, IN A SANDBOX (cutbox-rows.mjs): the forced cells as the released guide's own fill.sh prints them over the translation 94721f799d56e6a7… (all of the seat's roots in one cut). By AI agents, Wed Nov 11 2026. No macro, syntax, notation, axiom, sorry.
-/
import Derived.Test.YtafgalicpecdlaaDoorChecked
import GoSem.Claim
import GoSem.ClaimJoined
import GoSem.ClaimMapViews
import Derived.JoinedTies
import Derived.KernelRfl
namespace Go.Proofs.YtafgalicpecdlaaDoor
/- THE CELL 'sum', in the pinned program and in every row, IS THE sha256 OF THE DUMP (.gsa) THAT YtafgalicpecdlaaDoorProg.lean LOADS. Nothing in Lean hashes anything: it is a label: what it is worth is what the hold of that sum in a sandbox is worth. -/
noncomputable def Tryd.pinned : Pinned := { name := "ytafgalicpecdlaadoor", sum := "94721f799d56e6a7f4e2e8208e6b7335addadb1300b49b59e2775624d8821e2d", checked := Tryd.checked }
namespace Rows
def none {H : Type} : Left H := { results := [], args := [] }

/- WHAT THE LISTED PACKAGE-LEVEL VARIABLES READ AS WHEN THE CALL BEGINS. Each datum BY PROGRAM (the guide's laid-datum.mjs) off the statement by which the dump's own 'gosem.cut.vars' lays the variable. In a bare row this is a premise. The card (YtafgalicpecdlaaDoorCards.lean) ties it to the program's text. -/
def laid_cribble_long_bigTurns {H : Type} : DataW H := .agg [.agg [.lit (.int .i64 28), .lit (.int .i64 34), .lit (.int .i64 39)], .agg [.lit (.int .i64 14), .lit (.int .i64 18), .lit (.int .i64 41)]]
def laid_cribble_long_smallTurns {H : Type} : DataW H := .agg [.agg [.lit (.int .i64 1), .lit (.int .i64 8)], .agg [.lit (.int .i64 19), .lit (.int .i64 61)]]
def laid_cribble_long_smallShifts {H : Type} : DataW H := .agg [.lit (.int .i64 7), .lit (.int .i64 6)]

/-- 'cribblelaw02.LongSigmas': WHATEVER THE INPUT: true; the input reads as it did. -/
def longSigmasSpec : ChangeSpec := { name := "longSigmas", fn := fun _ => fun
  | [d1, d2] => { results := [.lit (.bool true)], args := [d1, d2] }
  | _ => none }
def longSigmasRow : OpenClaim := { program := "ytafgalicpecdlaadoor", sum := "94721f799d56e6a7f4e2e8208e6b7335addadb1300b49b59e2775624d8821e2d", func := "cribble/cribblelaw02.LongSigmas", spec := "longSigmas", named := ["cribble/long.bigTurns", "cribble/long.smallTurns", "cribble/long.smallShifts"], apart := false, laid := [("cribble/long.bigTurns", laid_cribble_long_bigTurns), ("cribble/long.smallTurns", laid_cribble_long_smallTurns), ("cribble/long.smallShifts", laid_cribble_long_smallShifts)] }
def LongSigmasSaid : Prop := longSigmasRow.holds Tryd.pinned (OpenSpec.ofChange longSigmasSpec)

/-- ITS FALSE NEIGHBOUR: 'it returns false'. Refute it at one input. -/
def longSigmasWrong : ChangeSpec := { name := "longSigmas", fn := fun _ => fun
  | [d1, d2] => { results := [.lit (.bool false)], args := [d1, d2] }
  | _ => none }
def LongSigmasWrongFalsely : Prop := longSigmasRow.holds Tryd.pinned (OpenSpec.ofChange longSigmasWrong)

/-- 'cribblelaw02.LongLinear': WHATEVER THE INPUT: true; the input reads as it did. -/
def longLinearSpec : ChangeSpec := { name := "longLinear", fn := fun _ => fun
  | [d1, d2] => { results := [.lit (.bool true)], args := [d1, d2] }
  | _ => none }
def longLinearRow : OpenClaim := { program := "ytafgalicpecdlaadoor", sum := "94721f799d56e6a7f4e2e8208e6b7335addadb1300b49b59e2775624d8821e2d", func := "cribble/cribblelaw02.LongLinear", spec := "longLinear", named := ["cribble/long.bigTurns", "cribble/long.smallTurns", "cribble/long.smallShifts"], apart := false, laid := [("cribble/long.bigTurns", laid_cribble_long_bigTurns), ("cribble/long.smallTurns", laid_cribble_long_smallTurns), ("cribble/long.smallShifts", laid_cribble_long_smallShifts)] }
def LongLinearSaid : Prop := longLinearRow.holds Tryd.pinned (OpenSpec.ofChange longLinearSpec)

/-- ITS FALSE NEIGHBOUR: 'it returns false'. Refute it at one input. -/
def longLinearWrong : ChangeSpec := { name := "longLinear", fn := fun _ => fun
  | [d1, d2] => { results := [.lit (.bool false)], args := [d1, d2] }
  | _ => none }
def LongLinearWrongFalsely : Prop := longLinearRow.holds Tryd.pinned (OpenSpec.ofChange longLinearWrong)

/- THE SECOND FORM. 'bulk': how many values and letters a reading holds, each counted each time it is reached (what is shared counts as often as it is met; a slice's spare places count too). A statement '..UptoSaid' is the law's where the arguments, and the package variables that the reading takes, are together of bulk at most 1048576: NARROWER than '..Said'. Prove '..Said' where nothing that the law and all that it calls make is longer than what came in: it says more and counts as full. Else prove '..UptoSaid'. A law counts once. -/
mutual
def uptoBulk {H : Type} : DataW H → Nat
  | .lit (.string bytes) => bytes.length + 1
  | .lit _ => 1
  | .nil => 1
  | .ptr d => uptoBulk d + 1
  | .slice elems spare => uptoBulkAll elems + uptoBulkAll spare + 1
  | .agg parts => uptoBulkAll parts + 1
  | .iface _ d => uptoBulk d + 1
  | .map entries => uptoBulkEntries entries + 1
  | .held _ => 1
def uptoBulkAll {H : Type} : List (DataW H) → Nat
  | [] => 0
  | d :: r => uptoBulk d + uptoBulkAll r
def uptoBulkEntries {H : Type} : List (Lit × DataW H) → Nat
  | [] => 0
  | x :: r => uptoBulkEntry x + uptoBulkEntries r
def uptoBulkEntry {H : Type} : Lit × DataW H → Nat
  | (.string bytes, d) => bytes.length + uptoBulk d + 1
  | (_, d) => uptoBulk d + 1
 end
def uptoSmall : (H : Type) → List (DataW H) → Bool := fun _ ds => decide (uptoBulkAll ds ≤ 1048576)
def OpenSpec.upto (s : _root_.Go.ChangeSpec) : _root_.Go.OpenSpec := { _root_.Go.OpenSpec.ofChange s with cond := some uptoSmall }

/-- 'cribblelaw02.LongSigmas', WHERE WHAT IT READS IS OF BULK AT MOST 1048576: true; the input reads as it did. -/
def longSigmasUptoRow : OpenClaim := { program := "ytafgalicpecdlaadoor", sum := "94721f799d56e6a7f4e2e8208e6b7335addadb1300b49b59e2775624d8821e2d", func := "cribble/cribblelaw02.LongSigmas", spec := "longSigmas", named := ["cribble/long.bigTurns", "cribble/long.smallTurns", "cribble/long.smallShifts"], apart := false, laid := [("cribble/long.bigTurns", laid_cribble_long_bigTurns), ("cribble/long.smallTurns", laid_cribble_long_smallTurns), ("cribble/long.smallShifts", laid_cribble_long_smallShifts)], narrowed := true }
def LongSigmasUptoSaid : Prop := longSigmasUptoRow.holds Tryd.pinned (OpenSpec.upto longSigmasSpec)

/-- 'cribblelaw02.LongLinear', WHERE WHAT IT READS IS OF BULK AT MOST 1048576: true; the input reads as it did. -/
def longLinearUptoRow : OpenClaim := { program := "ytafgalicpecdlaadoor", sum := "94721f799d56e6a7f4e2e8208e6b7335addadb1300b49b59e2775624d8821e2d", func := "cribble/cribblelaw02.LongLinear", spec := "longLinear", named := ["cribble/long.bigTurns", "cribble/long.smallTurns", "cribble/long.smallShifts"], apart := false, laid := [("cribble/long.bigTurns", laid_cribble_long_bigTurns), ("cribble/long.smallTurns", laid_cribble_long_smallTurns), ("cribble/long.smallShifts", laid_cribble_long_smallShifts)], narrowed := true }
def LongLinearUptoSaid : Prop := longLinearUptoRow.holds Tryd.pinned (OpenSpec.upto longLinearSpec)

end Rows
end Go.Proofs.YtafgalicpecdlaaDoor
