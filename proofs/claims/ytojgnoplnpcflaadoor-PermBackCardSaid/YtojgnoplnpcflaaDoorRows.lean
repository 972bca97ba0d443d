/-
  NARROWER THAN 'FOR EVERY INPUT', by the rows' own cells (each row's printed sentence says how): PermRounds: laid · PermF: laid · PermPart: laid · PermBack: laid · PermApart: laid.
  DERIVED. THE GIVEN ROWS OF THIS SEAT. 5 by the template 'for every input the law returns true; each argument reads behind the call as it read before'; 0 by the template 'total and deterministic' (their statements: YtojgnoplnpcflaaDoorTotals.lean).
  GIVEN WITH THE SEED: the statements are not yours to turn. If you find one false, say at which input.
  Laid BY PROGRAM, IN A SANDBOX (cutbox-rows.mjs): the forced cells as the released guide's own fill.sh prints them over the translation 2553e5cf6bfbba55… (all of the seat's roots in one cut). By AI agents, Wed Nov 11 2026. No macro, syntax, notation, axiom, sorry.
-/
import Derived.Test.YtojgnoplnpcflaaDoorChecked
import GoSem.Claim
import GoSem.ClaimJoined
import GoSem.ClaimMapViews
import Derived.JoinedTies
import Derived.KernelRfl
namespace Go.Proofs.YtojgnoplnpcflaaDoor
/- THE CELL 'sum', in the pinned program and in every row, IS THE sha256 OF THE DUMP (.gsa) THAT YtojgnoplnpcflaaDoorProg.lean LOADS. Nothing in Lean hashes anything: it is a label: what it is worth is what the hold of that sum in a sandbox is worth. -/
noncomputable def Tryd.pinned : Pinned := { name := "ytojgnoplnpcflaadoor", sum := "2553e5cf6bfbba55e7cd9595c9109c495198f428d6f6a463d9096fe839a0562b", checked := Tryd.checked }
namespace Rows
def none {H : Type} : Left H := { results := [], args := [] }

/- WHAT THE LISTED PACKAGE-LEVEL VARIABLES READ AS WHEN THE CALL BEGINS. Each datum BY PROGRAM (the guide's laid-datum.mjs) off the statement by which the dump's own 'gosem.cut.vars' lays the variable. In a bare row this is a premise. The card (YtojgnoplnpcflaaDoorCards.lean) ties it to the program's text. -/
def laid_cribble_step_offsets {H : Type} : DataW H := .agg [.agg [.lit (.int .i64 0), .lit (.int .i64 1), .lit (.int .i64 62), .lit (.int .i64 28), .lit (.int .i64 27)], .agg [.lit (.int .i64 36), .lit (.int .i64 44), .lit (.int .i64 6), .lit (.int .i64 55), .lit (.int .i64 20)], .agg [.lit (.int .i64 3), .lit (.int .i64 10), .lit (.int .i64 43), .lit (.int .i64 25), .lit (.int .i64 39)], .agg [.lit (.int .i64 41), .lit (.int .i64 45), .lit (.int .i64 15), .lit (.int .i64 21), .lit (.int .i64 8)], .agg [.lit (.int .i64 18), .lit (.int .i64 2), .lit (.int .i64 61), .lit (.int .i64 56), .lit (.int .i64 14)]]

/-- 'cribblelaw13.PermRounds': WHATEVER THE INPUT: true; the input reads as it did. -/
def permRoundsSpec : ChangeSpec := { name := "permRounds", fn := fun _ => fun
  | [d1, d2] => { results := [.lit (.bool true)], args := [d1, d2] }
  | _ => none }
def permRoundsRow : OpenClaim := { program := "ytojgnoplnpcflaadoor", sum := "2553e5cf6bfbba55e7cd9595c9109c495198f428d6f6a463d9096fe839a0562b", func := "cribble/cribblelaw13.PermRounds", spec := "permRounds", named := ["cribble/step.offsets"], apart := false, laid := [("cribble/step.offsets", laid_cribble_step_offsets)] }
def PermRoundsSaid : Prop := permRoundsRow.holds Tryd.pinned (OpenSpec.ofChange permRoundsSpec)

/-- ITS FALSE NEIGHBOUR: 'it returns false'. Refute it at one input. -/
def permRoundsWrong : ChangeSpec := { name := "permRounds", fn := fun _ => fun
  | [d1, d2] => { results := [.lit (.bool false)], args := [d1, d2] }
  | _ => none }
def PermRoundsWrongFalsely : Prop := permRoundsRow.holds Tryd.pinned (OpenSpec.ofChange permRoundsWrong)

/-- 'cribblelaw13.PermF': WHATEVER THE INPUT: true; the input reads as it did. -/
def permFSpec : ChangeSpec := { name := "permF", fn := fun _ => fun
  | [d1, d2] => { results := [.lit (.bool true)], args := [d1, d2] }
  | _ => none }
def permFRow : OpenClaim := { program := "ytojgnoplnpcflaadoor", sum := "2553e5cf6bfbba55e7cd9595c9109c495198f428d6f6a463d9096fe839a0562b", func := "cribble/cribblelaw13.PermF", spec := "permF", named := ["cribble/step.offsets"], apart := false, laid := [("cribble/step.offsets", laid_cribble_step_offsets)] }
def PermFSaid : Prop := permFRow.holds Tryd.pinned (OpenSpec.ofChange permFSpec)

/-- ITS FALSE NEIGHBOUR: 'it returns false'. Refute it at one input. -/
def permFWrong : ChangeSpec := { name := "permF", fn := fun _ => fun
  | [d1, d2] => { results := [.lit (.bool false)], args := [d1, d2] }
  | _ => none }
def PermFWrongFalsely : Prop := permFRow.holds Tryd.pinned (OpenSpec.ofChange permFWrong)

/-- 'cribblelaw13.PermPart': WHATEVER THE INPUT: true; the input reads as it did. -/
def permPartSpec : ChangeSpec := { name := "permPart", fn := fun _ => fun
  | [d1, d2, d3] => { results := [.lit (.bool true)], args := [d1, d2, d3] }
  | _ => none }
def permPartRow : OpenClaim := { program := "ytojgnoplnpcflaadoor", sum := "2553e5cf6bfbba55e7cd9595c9109c495198f428d6f6a463d9096fe839a0562b", func := "cribble/cribblelaw13.PermPart", spec := "permPart", named := ["cribble/step.offsets"], apart := false, laid := [("cribble/step.offsets", laid_cribble_step_offsets)] }
def PermPartSaid : Prop := permPartRow.holds Tryd.pinned (OpenSpec.ofChange permPartSpec)

/-- ITS FALSE NEIGHBOUR: 'it returns false'. Refute it at one input. -/
def permPartWrong : ChangeSpec := { name := "permPart", fn := fun _ => fun
  | [d1, d2, d3] => { results := [.lit (.bool false)], args := [d1, d2, d3] }
  | _ => none }
def PermPartWrongFalsely : Prop := permPartRow.holds Tryd.pinned (OpenSpec.ofChange permPartWrong)

/-- 'cribblelaw13.PermBack': WHATEVER THE INPUT: true; the input reads as it did. -/
def permBackSpec : ChangeSpec := { name := "permBack", fn := fun _ => fun
  | [d1, d2] => { results := [.lit (.bool true)], args := [d1, d2] }
  | _ => none }
def permBackRow : OpenClaim := { program := "ytojgnoplnpcflaadoor", sum := "2553e5cf6bfbba55e7cd9595c9109c495198f428d6f6a463d9096fe839a0562b", func := "cribble/cribblelaw13.PermBack", spec := "permBack", named := ["cribble/step.offsets"], apart := false, laid := [("cribble/step.offsets", laid_cribble_step_offsets)] }
def PermBackSaid : Prop := permBackRow.holds Tryd.pinned (OpenSpec.ofChange permBackSpec)

/-- ITS FALSE NEIGHBOUR: 'it returns false'. Refute it at one input. -/
def permBackWrong : ChangeSpec := { name := "permBack", fn := fun _ => fun
  | [d1, d2] => { results := [.lit (.bool false)], args := [d1, d2] }
  | _ => none }
def PermBackWrongFalsely : Prop := permBackRow.holds Tryd.pinned (OpenSpec.ofChange permBackWrong)

/-- 'cribblelaw13.PermApart': WHATEVER THE INPUT: true; the input reads as it did. -/
def permApartSpec : ChangeSpec := { name := "permApart", fn := fun _ => fun
  | [d1, d2, d3] => { results := [.lit (.bool true)], args := [d1, d2, d3] }
  | _ => none }
def permApartRow : OpenClaim := { program := "ytojgnoplnpcflaadoor", sum := "2553e5cf6bfbba55e7cd9595c9109c495198f428d6f6a463d9096fe839a0562b", func := "cribble/cribblelaw13.PermApart", spec := "permApart", named := ["cribble/step.offsets"], apart := false, laid := [("cribble/step.offsets", laid_cribble_step_offsets)] }
def PermApartSaid : Prop := permApartRow.holds Tryd.pinned (OpenSpec.ofChange permApartSpec)

/-- ITS FALSE NEIGHBOUR: 'it returns false'. Refute it at one input. -/
def permApartWrong : ChangeSpec := { name := "permApart", fn := fun _ => fun
  | [d1, d2, d3] => { results := [.lit (.bool false)], args := [d1, d2, d3] }
  | _ => none }
def PermApartWrongFalsely : Prop := permApartRow.holds Tryd.pinned (OpenSpec.ofChange permApartWrong)

/- THE SECOND FORM. 'bulk': how many values and letters a reading holds, each counted each time it is reached (what is shared counts as often as it is met; a slice's spare places count too). A statement '..UptoSaid' is the law's where the arguments, and the package variables that the reading takes, are together of bulk at most 1048576: NARROWER than '..Said'. Prove '..Said' where nothing that the law and all that it calls make is longer than what came in: it says more and counts as full. Else prove '..UptoSaid'. A law counts once. -/
mutual
def uptoBulk {H : Type} : DataW H → Nat
  | .lit (.string bytes) => bytes.length + 1
  | .lit _ => 1
  | .nil => 1
  | .ptr d => uptoBulk d + 1
  | .slice elems spare => uptoBulkAll elems + uptoBulkAll spare + 1
  | .agg parts => uptoBulkAll parts + 1
  | .iface _ d => uptoBulk d + 1
  | .map entries => uptoBulkEntries entries + 1
  | .held _ => 1
def uptoBulkAll {H : Type} : List (DataW H) → Nat
  | [] => 0
  | d :: r => uptoBulk d + uptoBulkAll r
def uptoBulkEntries {H : Type} : List (Lit × DataW H) → Nat
  | [] => 0
  | x :: r => uptoBulkEntry x + uptoBulkEntries r
def uptoBulkEntry {H : Type} : Lit × DataW H → Nat
  | (.string bytes, d) => bytes.length + uptoBulk d + 1
  | (_, d) => uptoBulk d + 1
 end
def uptoSmall : (H : Type) → List (DataW H) → Bool := fun _ ds => decide (uptoBulkAll ds ≤ 1048576)
def OpenSpec.upto (s : _root_.Go.ChangeSpec) : _root_.Go.OpenSpec := { _root_.Go.OpenSpec.ofChange s with cond := some uptoSmall }

/-- 'cribblelaw13.PermRounds', WHERE WHAT IT READS IS OF BULK AT MOST 1048576: true; the input reads as it did. -/
def permRoundsUptoRow : OpenClaim := { program := "ytojgnoplnpcflaadoor", sum := "2553e5cf6bfbba55e7cd9595c9109c495198f428d6f6a463d9096fe839a0562b", func := "cribble/cribblelaw13.PermRounds", spec := "permRounds", named := ["cribble/step.offsets"], apart := false, laid := [("cribble/step.offsets", laid_cribble_step_offsets)], narrowed := true }
def PermRoundsUptoSaid : Prop := permRoundsUptoRow.holds Tryd.pinned (OpenSpec.upto permRoundsSpec)

/-- 'cribblelaw13.PermF', WHERE WHAT IT READS IS OF BULK AT MOST 1048576: true; the input reads as it did. -/
def permFUptoRow : OpenClaim := { program := "ytojgnoplnpcflaadoor", sum := "2553e5cf6bfbba55e7cd9595c9109c495198f428d6f6a463d9096fe839a0562b", func := "cribble/cribblelaw13.PermF", spec := "permF", named := ["cribble/step.offsets"], apart := false, laid := [("cribble/step.offsets", laid_cribble_step_offsets)], narrowed := true }
def PermFUptoSaid : Prop := permFUptoRow.holds Tryd.pinned (OpenSpec.upto permFSpec)

/-- 'cribblelaw13.PermPart', WHERE WHAT IT READS IS OF BULK AT MOST 1048576: true; the input reads as it did. -/
def permPartUptoRow : OpenClaim := { program := "ytojgnoplnpcflaadoor", sum := "2553e5cf6bfbba55e7cd9595c9109c495198f428d6f6a463d9096fe839a0562b", func := "cribble/cribblelaw13.PermPart", spec := "permPart", named := ["cribble/step.offsets"], apart := false, laid := [("cribble/step.offsets", laid_cribble_step_offsets)], narrowed := true }
def PermPartUptoSaid : Prop := permPartUptoRow.holds Tryd.pinned (OpenSpec.upto permPartSpec)

/-- 'cribblelaw13.PermBack', WHERE WHAT IT READS IS OF BULK AT MOST 1048576: true; the input reads as it did. -/
def permBackUptoRow : OpenClaim := { program := "ytojgnoplnpcflaadoor", sum := "2553e5cf6bfbba55e7cd9595c9109c495198f428d6f6a463d9096fe839a0562b", func := "cribble/cribblelaw13.PermBack", spec := "permBack", named := ["cribble/step.offsets"], apart := false, laid := [("cribble/step.offsets", laid_cribble_step_offsets)], narrowed := true }
def PermBackUptoSaid : Prop := permBackUptoRow.holds Tryd.pinned (OpenSpec.upto permBackSpec)

/-- 'cribblelaw13.PermApart', WHERE WHAT IT READS IS OF BULK AT MOST 1048576: true; the input reads as it did. -/
def permApartUptoRow : OpenClaim := { program := "ytojgnoplnpcflaadoor", sum := "2553e5cf6bfbba55e7cd9595c9109c495198f428d6f6a463d9096fe839a0562b", func := "cribble/cribblelaw13.PermApart", spec := "permApart", named := ["cribble/step.offsets"], apart := false, laid := [("cribble/step.offsets", laid_cribble_step_offsets)], narrowed := true }
def PermApartUptoSaid : Prop := permApartUptoRow.holds Tryd.pinned (OpenSpec.upto permApartSpec)

end Rows
end Go.Proofs.YtojgnoplnpcflaaDoor
