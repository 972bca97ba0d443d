/-
  NARROWER THAN 'FOR EVERY INPUT', by the rows' own cells (each row's printed sentence says how): WordSigmas: laid · WordLinear: laid.
  DERIVED. THE GIVEN ROWS OF THIS SEAT. 2 by the template 'for every input the law returns true; each argument reads behind the call as it read before'; 0 by the template 'total and deterministic' (their statements: YtnceenfackimbaaDoorTotals.lean).
  GIVEN WITH THE SEED: the statements are not yours to turn. If you find one false, say at which input.
  Laid BY PROGRAM, IN A SANDBOX (cutbox-rows.mjs): the forced cells as the released guide's own fill.sh prints them over the translation 0a1a18ce528e84af… (all of the seat's roots in one cut). By AI agents, Wed Nov 11 2026. No macro, syntax, notation, axiom, sorry.
-/
import Derived.Test.YtnceenfackimbaaDoorChecked
import GoSem.Claim
import GoSem.ClaimJoined
import GoSem.ClaimMapViews
import Derived.JoinedTies
import Derived.KernelRfl
namespace Go.Proofs.YtnceenfackimbaaDoor
/- THE CELL 'sum', in the pinned program and in every row, IS THE sha256 OF THE DUMP (.gsa) THAT YtnceenfackimbaaDoorProg.lean LOADS. Nothing in Lean hashes anything: it is a label: what it is worth is what the hold of that sum in a sandbox is worth. -/
noncomputable def Tryd.pinned : Pinned := { name := "ytnceenfackimbaadoor", sum := "0a1a18ce528e84af4265ac7aaeb2b18ecda242c3f0f87fc7dbf9ff7a98d20b83", checked := Tryd.checked }
namespace Rows
def none {H : Type} : Left H := { results := [], args := [] }

/- WHAT THE LISTED PACKAGE-LEVEL VARIABLES READ AS WHEN THE CALL BEGINS. Each datum BY PROGRAM (the guide's laid-datum.mjs) off the statement by which the dump's own 'gosem.cut.vars' lays the variable. In a bare row this is a premise. The card (YtnceenfackimbaaDoorCards.lean) ties it to the program's text. -/
def laid_cribble_word_bigTurns {H : Type} : DataW H := .agg [.agg [.lit (.int .i64 2), .lit (.int .i64 13), .lit (.int .i64 22)], .agg [.lit (.int .i64 6), .lit (.int .i64 11), .lit (.int .i64 25)]]
def laid_cribble_word_smallTurns {H : Type} : DataW H := .agg [.agg [.lit (.int .i64 7), .lit (.int .i64 18)], .agg [.lit (.int .i64 17), .lit (.int .i64 19)]]
def laid_cribble_word_smallShifts {H : Type} : DataW H := .agg [.lit (.int .i64 3), .lit (.int .i64 10)]

/-- 'cribblelaw01.WordSigmas': WHATEVER THE INPUT: true; the input reads as it did. -/
def wordSigmasSpec : ChangeSpec := { name := "wordSigmas", fn := fun _ => fun
  | [d1, d2] => { results := [.lit (.bool true)], args := [d1, d2] }
  | _ => none }
def wordSigmasRow : OpenClaim := { program := "ytnceenfackimbaadoor", sum := "0a1a18ce528e84af4265ac7aaeb2b18ecda242c3f0f87fc7dbf9ff7a98d20b83", func := "cribble/cribblelaw01.WordSigmas", spec := "wordSigmas", named := ["cribble/word.bigTurns", "cribble/word.smallTurns", "cribble/word.smallShifts"], apart := false, laid := [("cribble/word.bigTurns", laid_cribble_word_bigTurns), ("cribble/word.smallTurns", laid_cribble_word_smallTurns), ("cribble/word.smallShifts", laid_cribble_word_smallShifts)] }
def WordSigmasSaid : Prop := wordSigmasRow.holds Tryd.pinned (OpenSpec.ofChange wordSigmasSpec)

/-- ITS FALSE NEIGHBOUR: 'it returns false'. Refute it at one input. -/
def wordSigmasWrong : ChangeSpec := { name := "wordSigmas", fn := fun _ => fun
  | [d1, d2] => { results := [.lit (.bool false)], args := [d1, d2] }
  | _ => none }
def WordSigmasWrongFalsely : Prop := wordSigmasRow.holds Tryd.pinned (OpenSpec.ofChange wordSigmasWrong)

/-- 'cribblelaw01.WordLinear': WHATEVER THE INPUT: true; the input reads as it did. -/
def wordLinearSpec : ChangeSpec := { name := "wordLinear", fn := fun _ => fun
  | [d1, d2] => { results := [.lit (.bool true)], args := [d1, d2] }
  | _ => none }
def wordLinearRow : OpenClaim := { program := "ytnceenfackimbaadoor", sum := "0a1a18ce528e84af4265ac7aaeb2b18ecda242c3f0f87fc7dbf9ff7a98d20b83", func := "cribble/cribblelaw01.WordLinear", spec := "wordLinear", named := ["cribble/word.bigTurns", "cribble/word.smallTurns", "cribble/word.smallShifts"], apart := false, laid := [("cribble/word.bigTurns", laid_cribble_word_bigTurns), ("cribble/word.smallTurns", laid_cribble_word_smallTurns), ("cribble/word.smallShifts", laid_cribble_word_smallShifts)] }
def WordLinearSaid : Prop := wordLinearRow.holds Tryd.pinned (OpenSpec.ofChange wordLinearSpec)

/-- ITS FALSE NEIGHBOUR: 'it returns false'. Refute it at one input. -/
def wordLinearWrong : ChangeSpec := { name := "wordLinear", fn := fun _ => fun
  | [d1, d2] => { results := [.lit (.bool false)], args := [d1, d2] }
  | _ => none }
def WordLinearWrongFalsely : Prop := wordLinearRow.holds Tryd.pinned (OpenSpec.ofChange wordLinearWrong)

/- THE SECOND FORM. 'bulk': how many values and letters a reading holds, each counted each time it is reached (what is shared counts as often as it is met; a slice's spare places count too). A statement '..UptoSaid' is the law's where the arguments, and the package variables that the reading takes, are together of bulk at most 1048576: NARROWER than '..Said'. Prove '..Said' where nothing that the law and all that it calls make is longer than what came in: it says more and counts as full. Else prove '..UptoSaid'. A law counts once. -/
mutual
def uptoBulk {H : Type} : DataW H → Nat
  | .lit (.string bytes) => bytes.length + 1
  | .lit _ => 1
  | .nil => 1
  | .ptr d => uptoBulk d + 1
  | .slice elems spare => uptoBulkAll elems + uptoBulkAll spare + 1
  | .agg parts => uptoBulkAll parts + 1
  | .iface _ d => uptoBulk d + 1
  | .map entries => uptoBulkEntries entries + 1
  | .held _ => 1
def uptoBulkAll {H : Type} : List (DataW H) → Nat
  | [] => 0
  | d :: r => uptoBulk d + uptoBulkAll r
def uptoBulkEntries {H : Type} : List (Lit × DataW H) → Nat
  | [] => 0
  | x :: r => uptoBulkEntry x + uptoBulkEntries r
def uptoBulkEntry {H : Type} : Lit × DataW H → Nat
  | (.string bytes, d) => bytes.length + uptoBulk d + 1
  | (_, d) => uptoBulk d + 1
 end
def uptoSmall : (H : Type) → List (DataW H) → Bool := fun _ ds => decide (uptoBulkAll ds ≤ 1048576)
def OpenSpec.upto (s : _root_.Go.ChangeSpec) : _root_.Go.OpenSpec := { _root_.Go.OpenSpec.ofChange s with cond := some uptoSmall }

/-- 'cribblelaw01.WordSigmas', WHERE WHAT IT READS IS OF BULK AT MOST 1048576: true; the input reads as it did. -/
def wordSigmasUptoRow : OpenClaim := { program := "ytnceenfackimbaadoor", sum := "0a1a18ce528e84af4265ac7aaeb2b18ecda242c3f0f87fc7dbf9ff7a98d20b83", func := "cribble/cribblelaw01.WordSigmas", spec := "wordSigmas", named := ["cribble/word.bigTurns", "cribble/word.smallTurns", "cribble/word.smallShifts"], apart := false, laid := [("cribble/word.bigTurns", laid_cribble_word_bigTurns), ("cribble/word.smallTurns", laid_cribble_word_smallTurns), ("cribble/word.smallShifts", laid_cribble_word_smallShifts)], narrowed := true }
def WordSigmasUptoSaid : Prop := wordSigmasUptoRow.holds Tryd.pinned (OpenSpec.upto wordSigmasSpec)

/-- 'cribblelaw01.WordLinear', WHERE WHAT IT READS IS OF BULK AT MOST 1048576: true; the input reads as it did. -/
def wordLinearUptoRow : OpenClaim := { program := "ytnceenfackimbaadoor", sum := "0a1a18ce528e84af4265ac7aaeb2b18ecda242c3f0f87fc7dbf9ff7a98d20b83", func := "cribble/cribblelaw01.WordLinear", spec := "wordLinear", named := ["cribble/word.bigTurns", "cribble/word.smallTurns", "cribble/word.smallShifts"], apart := false, laid := [("cribble/word.bigTurns", laid_cribble_word_bigTurns), ("cribble/word.smallTurns", laid_cribble_word_smallTurns), ("cribble/word.smallShifts", laid_cribble_word_smallShifts)], narrowed := true }
def WordLinearUptoSaid : Prop := wordLinearUptoRow.holds Tryd.pinned (OpenSpec.upto wordLinearSpec)

end Rows
end Go.Proofs.YtnceenfackimbaaDoor
