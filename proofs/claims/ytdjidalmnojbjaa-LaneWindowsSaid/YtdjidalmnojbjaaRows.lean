/-
  No cell of these rows narrows 'for every input' (looked for: loops, veiled, ifaces, maps, wideKeys, modest, calm, conditions, laid).
  DERIVED. THE GIVEN ROWS OF THIS SEAT. 4 by the template 'for every input the law returns true; each argument reads behind the call as it read before'; 0 by the template 'total and deterministic' (their statements: YtdjidalmnojbjaaTotals.lean).
  GIVEN WITH THE SEED: the statements are not yours to turn. If you find one false, say at which input.
  Laid BY PROGRAM, IN A SANDBOX (cutbox-rows.mjs): the forced cells as the released guide's own fill.sh prints them over the translation 7f8882f5cb62deeb… (all of the seat's roots in one cut). By AI agents, Wed Nov 11 2026. No macro, syntax, notation, axiom, sorry.
-/
import Derived.Test.YtdjidalmnojbjaaChecked
import GoSem.Claim
import GoSem.ClaimJoined
import GoSem.ClaimMapViews
import Derived.JoinedTies
import Derived.KernelRfl
namespace Go.Proofs.Ytdjidalmnojbjaa
/- THE CELL 'sum', in the pinned program and in every row, IS THE sha256 OF THE DUMP (.gsa) THAT YtdjidalmnojbjaaProg.lean LOADS. Nothing in Lean hashes anything: it is a label: what it is worth is what the hold of that sum in a sandbox is worth. -/
noncomputable def Try.pinned : Pinned := { name := "ytdjidalmnojbjaa", sum := "7f8882f5cb62deebcd8d9c34a6e0444c798bc3e86cfcaa1afcd0ff9a33ccf7e3", checked := Try.checked }
namespace Rows
def none {H : Type} : Left H := { results := [], args := [] }

/-- 'cribblelaw14.LaneBytes': WHATEVER THE INPUT: true; the input reads as it did. -/
def laneBytesSpec : ChangeSpec := { name := "laneBytes", fn := fun _ => fun
  | [d1, d2] => { results := [.lit (.bool true)], args := [d1, d2] }
  | _ => none }
def laneBytesRow : OpenClaim := { program := "ytdjidalmnojbjaa", sum := "7f8882f5cb62deebcd8d9c34a6e0444c798bc3e86cfcaa1afcd0ff9a33ccf7e3", func := "cribble/cribblelaw14.LaneBytes", spec := "laneBytes", unfollowed := true, recurses := true, apart := false }
def LaneBytesSaid : Prop := laneBytesRow.holds Try.pinned (OpenSpec.ofChange laneBytesSpec)

/-- ITS FALSE NEIGHBOUR: 'it returns false'. Refute it at one input. -/
def laneBytesWrong : ChangeSpec := { name := "laneBytes", fn := fun _ => fun
  | [d1, d2] => { results := [.lit (.bool false)], args := [d1, d2] }
  | _ => none }
def LaneBytesWrongFalsely : Prop := laneBytesRow.holds Try.pinned (OpenSpec.ofChange laneBytesWrong)

/-- 'cribblelaw14.LaneXors': WHATEVER THE INPUT: true; the input reads as it did. -/
def laneXorsSpec : ChangeSpec := { name := "laneXors", fn := fun _ => fun
  | [d1, d2, d3] => { results := [.lit (.bool true)], args := [d1, d2, d3] }
  | _ => none }
def laneXorsRow : OpenClaim := { program := "ytdjidalmnojbjaa", sum := "7f8882f5cb62deebcd8d9c34a6e0444c798bc3e86cfcaa1afcd0ff9a33ccf7e3", func := "cribble/cribblelaw14.LaneXors", spec := "laneXors", unfollowed := true, recurses := true, apart := false }
def LaneXorsSaid : Prop := laneXorsRow.holds Try.pinned (OpenSpec.ofChange laneXorsSpec)

/-- ITS FALSE NEIGHBOUR: 'it returns false'. Refute it at one input. -/
def laneXorsWrong : ChangeSpec := { name := "laneXors", fn := fun _ => fun
  | [d1, d2, d3] => { results := [.lit (.bool false)], args := [d1, d2, d3] }
  | _ => none }
def LaneXorsWrongFalsely : Prop := laneXorsRow.holds Try.pinned (OpenSpec.ofChange laneXorsWrong)

/-- 'cribblelaw14.LaneOuts': WHATEVER THE INPUT: true; the input reads as it did. -/
def laneOutsSpec : ChangeSpec := { name := "laneOuts", fn := fun _ => fun
  | [d1, d2, d3] => { results := [.lit (.bool true)], args := [d1, d2, d3] }
  | _ => none }
def laneOutsRow : OpenClaim := { program := "ytdjidalmnojbjaa", sum := "7f8882f5cb62deebcd8d9c34a6e0444c798bc3e86cfcaa1afcd0ff9a33ccf7e3", func := "cribble/cribblelaw14.LaneOuts", spec := "laneOuts", unfollowed := true, recurses := true, apart := false }
def LaneOutsSaid : Prop := laneOutsRow.holds Try.pinned (OpenSpec.ofChange laneOutsSpec)

/-- ITS FALSE NEIGHBOUR: 'it returns false'. Refute it at one input. -/
def laneOutsWrong : ChangeSpec := { name := "laneOuts", fn := fun _ => fun
  | [d1, d2, d3] => { results := [.lit (.bool false)], args := [d1, d2, d3] }
  | _ => none }
def LaneOutsWrongFalsely : Prop := laneOutsRow.holds Try.pinned (OpenSpec.ofChange laneOutsWrong)

/-- 'cribblelaw14.LaneWindows': WHATEVER THE INPUT: true; the input reads as it did. -/
def laneWindowsSpec : ChangeSpec := { name := "laneWindows", fn := fun _ => fun
  | [d1, d2] => { results := [.lit (.bool true)], args := [d1, d2] }
  | _ => none }
def laneWindowsRow : OpenClaim := { program := "ytdjidalmnojbjaa", sum := "7f8882f5cb62deebcd8d9c34a6e0444c798bc3e86cfcaa1afcd0ff9a33ccf7e3", func := "cribble/cribblelaw14.LaneWindows", spec := "laneWindows", unfollowed := true, recurses := true, apart := false }
def LaneWindowsSaid : Prop := laneWindowsRow.holds Try.pinned (OpenSpec.ofChange laneWindowsSpec)

/-- ITS FALSE NEIGHBOUR: 'it returns false'. Refute it at one input. -/
def laneWindowsWrong : ChangeSpec := { name := "laneWindows", fn := fun _ => fun
  | [d1, d2] => { results := [.lit (.bool false)], args := [d1, d2] }
  | _ => none }
def LaneWindowsWrongFalsely : Prop := laneWindowsRow.holds Try.pinned (OpenSpec.ofChange laneWindowsWrong)

/- THE SECOND FORM. 'bulk': how many values and letters a reading holds, each counted each time it is reached (what is shared counts as often as it is met; a slice's spare places count too). A statement '..UptoSaid' is the law's where the arguments, and the package variables that the reading takes, are together of bulk at most 1048576: NARROWER than '..Said'. Prove '..Said' where nothing that the law and all that it calls make is longer than what came in: it says more and counts as full. Else prove '..UptoSaid'. A law counts once. -/
mutual
def uptoBulk {H : Type} : DataW H → Nat
  | .lit (.string bytes) => bytes.length + 1
  | .lit _ => 1
  | .nil => 1
  | .ptr d => uptoBulk d + 1
  | .slice elems spare => uptoBulkAll elems + uptoBulkAll spare + 1
  | .agg parts => uptoBulkAll parts + 1
  | .iface _ d => uptoBulk d + 1
  | .map entries => uptoBulkEntries entries + 1
  | .held _ => 1
def uptoBulkAll {H : Type} : List (DataW H) → Nat
  | [] => 0
  | d :: r => uptoBulk d + uptoBulkAll r
def uptoBulkEntries {H : Type} : List (Lit × DataW H) → Nat
  | [] => 0
  | x :: r => uptoBulkEntry x + uptoBulkEntries r
def uptoBulkEntry {H : Type} : Lit × DataW H → Nat
  | (.string bytes, d) => bytes.length + uptoBulk d + 1
  | (_, d) => uptoBulk d + 1
 end
def uptoSmall : (H : Type) → List (DataW H) → Bool := fun _ ds => decide (uptoBulkAll ds ≤ 1048576)
def OpenSpec.upto (s : _root_.Go.ChangeSpec) : _root_.Go.OpenSpec := { _root_.Go.OpenSpec.ofChange s with cond := some uptoSmall }

/-- 'cribblelaw14.LaneBytes', WHERE WHAT IT READS IS OF BULK AT MOST 1048576: true; the input reads as it did. -/
def laneBytesUptoRow : OpenClaim := { program := "ytdjidalmnojbjaa", sum := "7f8882f5cb62deebcd8d9c34a6e0444c798bc3e86cfcaa1afcd0ff9a33ccf7e3", func := "cribble/cribblelaw14.LaneBytes", spec := "laneBytes", unfollowed := true, recurses := true, apart := false, narrowed := true }
def LaneBytesUptoSaid : Prop := laneBytesUptoRow.holds Try.pinned (OpenSpec.upto laneBytesSpec)

/-- 'cribblelaw14.LaneXors', WHERE WHAT IT READS IS OF BULK AT MOST 1048576: true; the input reads as it did. -/
def laneXorsUptoRow : OpenClaim := { program := "ytdjidalmnojbjaa", sum := "7f8882f5cb62deebcd8d9c34a6e0444c798bc3e86cfcaa1afcd0ff9a33ccf7e3", func := "cribble/cribblelaw14.LaneXors", spec := "laneXors", unfollowed := true, recurses := true, apart := false, narrowed := true }
def LaneXorsUptoSaid : Prop := laneXorsUptoRow.holds Try.pinned (OpenSpec.upto laneXorsSpec)

/-- 'cribblelaw14.LaneOuts', WHERE WHAT IT READS IS OF BULK AT MOST 1048576: true; the input reads as it did. -/
def laneOutsUptoRow : OpenClaim := { program := "ytdjidalmnojbjaa", sum := "7f8882f5cb62deebcd8d9c34a6e0444c798bc3e86cfcaa1afcd0ff9a33ccf7e3", func := "cribble/cribblelaw14.LaneOuts", spec := "laneOuts", unfollowed := true, recurses := true, apart := false, narrowed := true }
def LaneOutsUptoSaid : Prop := laneOutsUptoRow.holds Try.pinned (OpenSpec.upto laneOutsSpec)

/-- 'cribblelaw14.LaneWindows', WHERE WHAT IT READS IS OF BULK AT MOST 1048576: true; the input reads as it did. -/
def laneWindowsUptoRow : OpenClaim := { program := "ytdjidalmnojbjaa", sum := "7f8882f5cb62deebcd8d9c34a6e0444c798bc3e86cfcaa1afcd0ff9a33ccf7e3", func := "cribble/cribblelaw14.LaneWindows", spec := "laneWindows", unfollowed := true, recurses := true, apart := false, narrowed := true }
def LaneWindowsUptoSaid : Prop := laneWindowsUptoRow.holds Try.pinned (OpenSpec.upto laneWindowsSpec)

end Rows
end Go.Proofs.Ytdjidalmnojbjaa
