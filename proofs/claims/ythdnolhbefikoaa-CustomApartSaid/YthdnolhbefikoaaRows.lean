/-
  No cell of these rows narrows 'for every input' (looked for: loops, veiled, ifaces, maps, wideKeys, modest, calm, conditions, laid).
  DERIVED. THE GIVEN ROWS OF THIS SEAT. 3 by the template 'for every input the law returns true; each argument reads behind the call as it read before'; 0 by the template 'total and deterministic' (their statements: YthdnolhbefikoaaTotals.lean).
  GIVEN WITH THE SEED: the statements are not yours to turn. If you find one false, say at which input.
  Laid BY PROGRAM, IN A SANDBOX (cutbox-rows.mjs): the forced cells as the released guide's own fill.sh prints them over the translation 18ac5f03eef7c225… (all of the seat's roots in one cut). By AI agents, Wed Nov 11 2026. No macro, syntax, notation, axiom, sorry.
-/
import Derived.Test.YthdnolhbefikoaaChecked
import GoSem.Claim
import GoSem.ClaimJoined
import GoSem.ClaimMapViews
import Derived.JoinedTies
import Derived.KernelRfl
namespace Go.Proofs.Ythdnolhbefikoaa
/- THE CELL 'sum', in the pinned program and in every row, IS THE sha256 OF THE DUMP (.gsa) THAT YthdnolhbefikoaaProg.lean LOADS. Nothing in Lean hashes anything: it is a label: what it is worth is what the hold of that sum in a sandbox is worth. -/
noncomputable def Try.pinned : Pinned := { name := "ythdnolhbefikoaa", sum := "18ac5f03eef7c2250b42611a344914319087f37367f56dbfd621c8234036bd44", checked := Try.checked }
namespace Rows
def none {H : Type} : Left H := { results := [], args := [] }

/-- 'cribblelaw17.CustomPrefixes': WHATEVER THE INPUT: true; the input reads as it did. -/
def customPrefixesSpec : ChangeSpec := { name := "customPrefixes", fn := fun _ => fun
  | [d1, d2] => { results := [.lit (.bool true)], args := [d1, d2] }
  | _ => none }
def customPrefixesRow : OpenClaim := { program := "ythdnolhbefikoaa", sum := "18ac5f03eef7c2250b42611a344914319087f37367f56dbfd621c8234036bd44", func := "cribble/cribblelaw17.CustomPrefixes", spec := "customPrefixes", unfollowed := true, recurses := true, apart := false }
def CustomPrefixesSaid : Prop := customPrefixesRow.holds Try.pinned (OpenSpec.ofChange customPrefixesSpec)

/-- ITS FALSE NEIGHBOUR: 'it returns false'. Refute it at one input. -/
def customPrefixesWrong : ChangeSpec := { name := "customPrefixes", fn := fun _ => fun
  | [d1, d2] => { results := [.lit (.bool false)], args := [d1, d2] }
  | _ => none }
def CustomPrefixesWrongFalsely : Prop := customPrefixesRow.holds Try.pinned (OpenSpec.ofChange customPrefixesWrong)

/-- 'cribblelaw17.CustomApart': WHATEVER THE INPUT: true; the input reads as it did. -/
def customApartSpec : ChangeSpec := { name := "customApart", fn := fun _ => fun
  | [d1, d2] => { results := [.lit (.bool true)], args := [d1, d2] }
  | _ => none }
def customApartRow : OpenClaim := { program := "ythdnolhbefikoaa", sum := "18ac5f03eef7c2250b42611a344914319087f37367f56dbfd621c8234036bd44", func := "cribble/cribblelaw17.CustomApart", spec := "customApart", unfollowed := true, recurses := true, apart := false }
def CustomApartSaid : Prop := customApartRow.holds Try.pinned (OpenSpec.ofChange customApartSpec)

/-- ITS FALSE NEIGHBOUR: 'it returns false'. Refute it at one input. -/
def customApartWrong : ChangeSpec := { name := "customApart", fn := fun _ => fun
  | [d1, d2] => { results := [.lit (.bool false)], args := [d1, d2] }
  | _ => none }
def CustomApartWrongFalsely : Prop := customApartRow.holds Try.pinned (OpenSpec.ofChange customApartWrong)

/-- 'cribblelaw17.CustomLengths': WHATEVER THE INPUT: true; the input reads as it did. -/
def customLengthsSpec : ChangeSpec := { name := "customLengths", fn := fun _ => fun
  | [d1, d2] => { results := [.lit (.bool true)], args := [d1, d2] }
  | _ => none }
def customLengthsRow : OpenClaim := { program := "ythdnolhbefikoaa", sum := "18ac5f03eef7c2250b42611a344914319087f37367f56dbfd621c8234036bd44", func := "cribble/cribblelaw17.CustomLengths", spec := "customLengths", unfollowed := true, recurses := true, apart := false }
def CustomLengthsSaid : Prop := customLengthsRow.holds Try.pinned (OpenSpec.ofChange customLengthsSpec)

/-- ITS FALSE NEIGHBOUR: 'it returns false'. Refute it at one input. -/
def customLengthsWrong : ChangeSpec := { name := "customLengths", fn := fun _ => fun
  | [d1, d2] => { results := [.lit (.bool false)], args := [d1, d2] }
  | _ => none }
def CustomLengthsWrongFalsely : Prop := customLengthsRow.holds Try.pinned (OpenSpec.ofChange customLengthsWrong)

/- THE SECOND FORM. 'bulk': how many values and letters a reading holds, each counted each time it is reached (what is shared counts as often as it is met; a slice's spare places count too). A statement '..UptoSaid' is the law's where the arguments, and the package variables that the reading takes, are together of bulk at most 1048576: NARROWER than '..Said'. Prove '..Said' where nothing that the law and all that it calls make is longer than what came in: it says more and counts as full. Else prove '..UptoSaid'. A law counts once. -/
mutual
def uptoBulk {H : Type} : DataW H → Nat
  | .lit (.string bytes) => bytes.length + 1
  | .lit _ => 1
  | .nil => 1
  | .ptr d => uptoBulk d + 1
  | .slice elems spare => uptoBulkAll elems + uptoBulkAll spare + 1
  | .agg parts => uptoBulkAll parts + 1
  | .iface _ d => uptoBulk d + 1
  | .map entries => uptoBulkEntries entries + 1
  | .held _ => 1
def uptoBulkAll {H : Type} : List (DataW H) → Nat
  | [] => 0
  | d :: r => uptoBulk d + uptoBulkAll r
def uptoBulkEntries {H : Type} : List (Lit × DataW H) → Nat
  | [] => 0
  | x :: r => uptoBulkEntry x + uptoBulkEntries r
def uptoBulkEntry {H : Type} : Lit × DataW H → Nat
  | (.string bytes, d) => bytes.length + uptoBulk d + 1
  | (_, d) => uptoBulk d + 1
 end
def uptoSmall : (H : Type) → List (DataW H) → Bool := fun _ ds => decide (uptoBulkAll ds ≤ 1048576)
def OpenSpec.upto (s : _root_.Go.ChangeSpec) : _root_.Go.OpenSpec := { _root_.Go.OpenSpec.ofChange s with cond := some uptoSmall }

/-- 'cribblelaw17.CustomPrefixes', WHERE WHAT IT READS IS OF BULK AT MOST 1048576: true; the input reads as it did. -/
def customPrefixesUptoRow : OpenClaim := { program := "ythdnolhbefikoaa", sum := "18ac5f03eef7c2250b42611a344914319087f37367f56dbfd621c8234036bd44", func := "cribble/cribblelaw17.CustomPrefixes", spec := "customPrefixes", unfollowed := true, recurses := true, apart := false, narrowed := true }
def CustomPrefixesUptoSaid : Prop := customPrefixesUptoRow.holds Try.pinned (OpenSpec.upto customPrefixesSpec)

/-- 'cribblelaw17.CustomApart', WHERE WHAT IT READS IS OF BULK AT MOST 1048576: true; the input reads as it did. -/
def customApartUptoRow : OpenClaim := { program := "ythdnolhbefikoaa", sum := "18ac5f03eef7c2250b42611a344914319087f37367f56dbfd621c8234036bd44", func := "cribble/cribblelaw17.CustomApart", spec := "customApart", unfollowed := true, recurses := true, apart := false, narrowed := true }
def CustomApartUptoSaid : Prop := customApartUptoRow.holds Try.pinned (OpenSpec.upto customApartSpec)

/-- 'cribblelaw17.CustomLengths', WHERE WHAT IT READS IS OF BULK AT MOST 1048576: true; the input reads as it did. -/
def customLengthsUptoRow : OpenClaim := { program := "ythdnolhbefikoaa", sum := "18ac5f03eef7c2250b42611a344914319087f37367f56dbfd621c8234036bd44", func := "cribble/cribblelaw17.CustomLengths", spec := "customLengths", unfollowed := true, recurses := true, apart := false, narrowed := true }
def CustomLengthsUptoSaid : Prop := customLengthsUptoRow.holds Try.pinned (OpenSpec.upto customLengthsSpec)

end Rows
end Go.Proofs.Ythdnolhbefikoaa
