/-
  NARROWER THAN 'FOR EVERY INPUT', by the rows' own cells (each row's printed sentence says how): UnsnapBytes: laid · UnsnapBlocks: laid · UnsnapSponges: laid · UnsnapDead: laid · UnsnapOne: laid.
  DERIVED. THE GIVEN ROWS OF THIS SEAT. 5 by the template 'for every input the law returns true; each argument reads behind the call as it read before'; 0 by the template 'total and deterministic' (their statements: YtflgnhplbblokaaGreatDoorTotals.lean).
  GIVEN WITH THE SEED: the statements are not yours to turn. If you find one false, say at which input.
  Laid BY PROGRAM, IN A SANDBOX (cutbox-rows.mjs): the forced cells as the released guide's own fill.sh prints them over the translation 7a3e9dad08f89e4c… (all of the seat's roots in one cut). By AI agents, Wed Nov 11 2026. No macro, syntax, notation, axiom, sorry.
-/
import Derived.Test.YtflgnhplbblokaaGreatDoorChecked
import GoSem.Claim
import GoSem.ClaimJoined
import GoSem.ClaimMapViews
import Derived.JoinedTies
import Derived.KernelRfl
namespace Go.Proofs.YtflgnhplbblokaaGreatDoor
/- THE CELL 'sum', in the pinned program and in every row, IS THE sha256 OF THE DUMP (.gsa) THAT YtflgnhplbblokaaGreatDoorProg.lean LOADS. Nothing in Lean hashes anything: it is a label: what it is worth is what the hold of that sum in a sandbox is worth. -/
noncomputable def Tryz.pinned : Pinned := { name := "ytflgnhplbblokaagreatdoor", sum := "7a3e9dad08f89e4cdcbb0dc133195db4022106a3942d6560b6fda2b7df08f541", checked := Tryz.checked }
namespace Rows
def none {H : Type} : Left H := { results := [], args := [] }

/- WHAT THE LISTED PACKAGE-LEVEL VARIABLES READ AS WHEN THE CALL BEGINS. Each datum BY PROGRAM (the guide's laid-datum.mjs) off the statement by which the dump's own 'gosem.cut.vars' lays the variable. In a bare row this is a premise. The card (YtflgnhplbblokaaGreatDoorCards.lean) ties it to the program's text. -/
def laid_cribble_alg_table {H : Type} : DataW H := .agg [.agg [.lit (.string []), .lit (.int .i64 0), .lit (.int .i64 0), .lit (.int .i64 0)], .agg [.lit (.string [115, 104, 97, 50, 50, 52]), .lit (.int .i64 1), .lit (.int .i64 28), .lit (.int .i64 64)], .agg [.lit (.string [115, 104, 97, 50, 53, 54]), .lit (.int .i64 1), .lit (.int .i64 32), .lit (.int .i64 64)], .agg [.lit (.string [115, 104, 97, 51, 56, 52]), .lit (.int .i64 1), .lit (.int .i64 48), .lit (.int .i64 128)], .agg [.lit (.string [115, 104, 97, 53, 49, 50]), .lit (.int .i64 1), .lit (.int .i64 64), .lit (.int .i64 128)], .agg [.lit (.string [115, 104, 97, 53, 49, 50, 45, 50, 50, 52]), .lit (.int .i64 1), .lit (.int .i64 28), .lit (.int .i64 128)], .agg [.lit (.string [115, 104, 97, 53, 49, 50, 45, 50, 53, 54]), .lit (.int .i64 1), .lit (.int .i64 32), .lit (.int .i64 128)], .agg [.lit (.string [115, 104, 97, 51, 45, 50, 50, 52]), .lit (.int .i64 2), .lit (.int .i64 28), .lit (.int .i64 144)], .agg [.lit (.string [115, 104, 97, 51, 45, 50, 53, 54]), .lit (.int .i64 2), .lit (.int .i64 32), .lit (.int .i64 136)], .agg [.lit (.string [115, 104, 97, 51, 45, 51, 56, 52]), .lit (.int .i64 2), .lit (.int .i64 48), .lit (.int .i64 104)], .agg [.lit (.string [115, 104, 97, 51, 45, 53, 49, 50]), .lit (.int .i64 2), .lit (.int .i64 64), .lit (.int .i64 72)], .agg [.lit (.string [115, 104, 97, 107, 101, 49, 50, 56]), .lit (.int .i64 3), .lit (.int .i64 32), .lit (.int .i64 168)], .agg [.lit (.string [115, 104, 97, 107, 101, 50, 53, 54]), .lit (.int .i64 3), .lit (.int .i64 64), .lit (.int .i64 136)], .agg [.lit (.string [99, 115, 104, 97, 107, 101, 49, 50, 56]), .lit (.int .i64 4), .lit (.int .i64 32), .lit (.int .i64 168)], .agg [.lit (.string [99, 115, 104, 97, 107, 101, 50, 53, 54]), .lit (.int .i64 4), .lit (.int .i64 64), .lit (.int .i64 136)]]
def laid_bytes_ErrTooLarge {H : Type} : DataW H := .iface "*errors.errorString" (.ptr (.agg [.lit (.string [98, 121, 116, 101, 115, 46, 66, 117, 102, 102, 101, 114, 58, 32, 116, 111, 111, 32, 108, 97, 114, 103, 101])]))

/-- 'cribblelaw21.UnsnapBytes': WHATEVER THE INPUT: true; the input reads as it did. -/
def unsnapBytesSpec : ChangeSpec := { name := "unsnapBytes", fn := fun _ => fun
  | [d] => { results := [.lit (.bool true)], args := [d] }
  | _ => none }
def unsnapBytesRow : OpenClaim := { program := "ytflgnhplbblokaagreatdoor", sum := "7a3e9dad08f89e4cdcbb0dc133195db4022106a3942d6560b6fda2b7df08f541", func := "cribble/cribblelaw21.UnsnapBytes", spec := "unsnapBytes", unfollowed := true, recurses := true, named := ["cribble/alg.table", "math/bits.divideError", "math/bits.overflowError", "bytes.ErrTooLarge"], apart := false, laid := [("cribble/alg.table", laid_cribble_alg_table), ("bytes.ErrTooLarge", laid_bytes_ErrTooLarge)] }
def UnsnapBytesSaid : Prop := unsnapBytesRow.holds Tryz.pinned (OpenSpec.ofChange unsnapBytesSpec)

/-- ITS FALSE NEIGHBOUR: 'it returns false'. Refute it at one input. -/
def unsnapBytesWrong : ChangeSpec := { name := "unsnapBytes", fn := fun _ => fun
  | [d] => { results := [.lit (.bool false)], args := [d] }
  | _ => none }
def UnsnapBytesWrongFalsely : Prop := unsnapBytesRow.holds Tryz.pinned (OpenSpec.ofChange unsnapBytesWrong)

/-- 'cribblelaw21.UnsnapBlocks': WHATEVER THE INPUT: true; the input reads as it did. -/
def unsnapBlocksSpec : ChangeSpec := { name := "unsnapBlocks", fn := fun _ => fun
  | [d1, d2] => { results := [.lit (.bool true)], args := [d1, d2] }
  | _ => none }
def unsnapBlocksRow : OpenClaim := { program := "ytflgnhplbblokaagreatdoor", sum := "7a3e9dad08f89e4cdcbb0dc133195db4022106a3942d6560b6fda2b7df08f541", func := "cribble/cribblelaw21.UnsnapBlocks", spec := "unsnapBlocks", unfollowed := true, recurses := true, named := ["cribble/alg.table", "math/bits.divideError", "math/bits.overflowError", "bytes.ErrTooLarge"], apart := false, laid := [("cribble/alg.table", laid_cribble_alg_table), ("bytes.ErrTooLarge", laid_bytes_ErrTooLarge)] }
def UnsnapBlocksSaid : Prop := unsnapBlocksRow.holds Tryz.pinned (OpenSpec.ofChange unsnapBlocksSpec)

/-- ITS FALSE NEIGHBOUR: 'it returns false'. Refute it at one input. -/
def unsnapBlocksWrong : ChangeSpec := { name := "unsnapBlocks", fn := fun _ => fun
  | [d1, d2] => { results := [.lit (.bool false)], args := [d1, d2] }
  | _ => none }
def UnsnapBlocksWrongFalsely : Prop := unsnapBlocksRow.holds Tryz.pinned (OpenSpec.ofChange unsnapBlocksWrong)

/-- 'cribblelaw21.UnsnapSponges': WHATEVER THE INPUT: true; the input reads as it did. -/
def unsnapSpongesSpec : ChangeSpec := { name := "unsnapSponges", fn := fun _ => fun
  | [d1, d2] => { results := [.lit (.bool true)], args := [d1, d2] }
  | _ => none }
def unsnapSpongesRow : OpenClaim := { program := "ytflgnhplbblokaagreatdoor", sum := "7a3e9dad08f89e4cdcbb0dc133195db4022106a3942d6560b6fda2b7df08f541", func := "cribble/cribblelaw21.UnsnapSponges", spec := "unsnapSponges", unfollowed := true, recurses := true, named := ["cribble/alg.table", "math/bits.divideError", "math/bits.overflowError", "bytes.ErrTooLarge"], apart := false, laid := [("cribble/alg.table", laid_cribble_alg_table), ("bytes.ErrTooLarge", laid_bytes_ErrTooLarge)] }
def UnsnapSpongesSaid : Prop := unsnapSpongesRow.holds Tryz.pinned (OpenSpec.ofChange unsnapSpongesSpec)

/-- ITS FALSE NEIGHBOUR: 'it returns false'. Refute it at one input. -/
def unsnapSpongesWrong : ChangeSpec := { name := "unsnapSponges", fn := fun _ => fun
  | [d1, d2] => { results := [.lit (.bool false)], args := [d1, d2] }
  | _ => none }
def UnsnapSpongesWrongFalsely : Prop := unsnapSpongesRow.holds Tryz.pinned (OpenSpec.ofChange unsnapSpongesWrong)

/-- 'cribblelaw21.UnsnapDead': WHATEVER THE INPUT: true; the input reads as it did. -/
def unsnapDeadSpec : ChangeSpec := { name := "unsnapDead", fn := fun _ => fun
  | [d1, d2, d3] => { results := [.lit (.bool true)], args := [d1, d2, d3] }
  | _ => none }
def unsnapDeadRow : OpenClaim := { program := "ytflgnhplbblokaagreatdoor", sum := "7a3e9dad08f89e4cdcbb0dc133195db4022106a3942d6560b6fda2b7df08f541", func := "cribble/cribblelaw21.UnsnapDead", spec := "unsnapDead", unfollowed := true, recurses := true, named := ["cribble/alg.table", "math/bits.divideError", "math/bits.overflowError", "bytes.ErrTooLarge"], apart := false, laid := [("cribble/alg.table", laid_cribble_alg_table), ("bytes.ErrTooLarge", laid_bytes_ErrTooLarge)] }
def UnsnapDeadSaid : Prop := unsnapDeadRow.holds Tryz.pinned (OpenSpec.ofChange unsnapDeadSpec)

/-- ITS FALSE NEIGHBOUR: 'it returns false'. Refute it at one input. -/
def unsnapDeadWrong : ChangeSpec := { name := "unsnapDead", fn := fun _ => fun
  | [d1, d2, d3] => { results := [.lit (.bool false)], args := [d1, d2, d3] }
  | _ => none }
def UnsnapDeadWrongFalsely : Prop := unsnapDeadRow.holds Tryz.pinned (OpenSpec.ofChange unsnapDeadWrong)

/-- 'cribblelaw21.UnsnapOne': WHATEVER THE INPUT: true; the input reads as it did. -/
def unsnapOneSpec : ChangeSpec := { name := "unsnapOne", fn := fun _ => fun
  | [d] => { results := [.lit (.bool true)], args := [d] }
  | _ => none }
def unsnapOneRow : OpenClaim := { program := "ytflgnhplbblokaagreatdoor", sum := "7a3e9dad08f89e4cdcbb0dc133195db4022106a3942d6560b6fda2b7df08f541", func := "cribble/cribblelaw21.UnsnapOne", spec := "unsnapOne", unfollowed := true, recurses := true, named := ["cribble/alg.table", "math/bits.divideError", "math/bits.overflowError", "bytes.ErrTooLarge"], apart := false, laid := [("cribble/alg.table", laid_cribble_alg_table), ("bytes.ErrTooLarge", laid_bytes_ErrTooLarge)] }
def UnsnapOneSaid : Prop := unsnapOneRow.holds Tryz.pinned (OpenSpec.ofChange unsnapOneSpec)

/-- ITS FALSE NEIGHBOUR: 'it returns false'. Refute it at one input. -/
def unsnapOneWrong : ChangeSpec := { name := "unsnapOne", fn := fun _ => fun
  | [d] => { results := [.lit (.bool false)], args := [d] }
  | _ => none }
def UnsnapOneWrongFalsely : Prop := unsnapOneRow.holds Tryz.pinned (OpenSpec.ofChange unsnapOneWrong)

/- THE SECOND FORM. 'bulk': how many values and letters a reading holds, each counted each time it is reached (what is shared counts as often as it is met; a slice's spare places count too). A statement '..UptoSaid' is the law's where the arguments, and the package variables that the reading takes, are together of bulk at most 1048576: NARROWER than '..Said'. Prove '..Said' where nothing that the law and all that it calls make is longer than what came in: it says more and counts as full. Else prove '..UptoSaid'. A law counts once. -/
mutual
def uptoBulk {H : Type} : DataW H → Nat
  | .lit (.string bytes) => bytes.length + 1
  | .lit _ => 1
  | .nil => 1
  | .ptr d => uptoBulk d + 1
  | .slice elems spare => uptoBulkAll elems + uptoBulkAll spare + 1
  | .agg parts => uptoBulkAll parts + 1
  | .iface _ d => uptoBulk d + 1
  | .map entries => uptoBulkEntries entries + 1
  | .held _ => 1
def uptoBulkAll {H : Type} : List (DataW H) → Nat
  | [] => 0
  | d :: r => uptoBulk d + uptoBulkAll r
def uptoBulkEntries {H : Type} : List (Lit × DataW H) → Nat
  | [] => 0
  | x :: r => uptoBulkEntry x + uptoBulkEntries r
def uptoBulkEntry {H : Type} : Lit × DataW H → Nat
  | (.string bytes, d) => bytes.length + uptoBulk d + 1
  | (_, d) => uptoBulk d + 1
 end
def uptoSmall : (H : Type) → List (DataW H) → Bool := fun _ ds => decide (uptoBulkAll ds ≤ 1048576)
def OpenSpec.upto (s : _root_.Go.ChangeSpec) : _root_.Go.OpenSpec := { _root_.Go.OpenSpec.ofChange s with cond := some uptoSmall }

/-- 'cribblelaw21.UnsnapBytes', WHERE WHAT IT READS IS OF BULK AT MOST 1048576: true; the input reads as it did. -/
def unsnapBytesUptoRow : OpenClaim := { program := "ytflgnhplbblokaagreatdoor", sum := "7a3e9dad08f89e4cdcbb0dc133195db4022106a3942d6560b6fda2b7df08f541", func := "cribble/cribblelaw21.UnsnapBytes", spec := "unsnapBytes", unfollowed := true, recurses := true, named := ["cribble/alg.table", "math/bits.divideError", "math/bits.overflowError", "bytes.ErrTooLarge"], apart := false, laid := [("cribble/alg.table", laid_cribble_alg_table), ("bytes.ErrTooLarge", laid_bytes_ErrTooLarge)], narrowed := true }
def UnsnapBytesUptoSaid : Prop := unsnapBytesUptoRow.holds Tryz.pinned (OpenSpec.upto unsnapBytesSpec)

/-- 'cribblelaw21.UnsnapBlocks', WHERE WHAT IT READS IS OF BULK AT MOST 1048576: true; the input reads as it did. -/
def unsnapBlocksUptoRow : OpenClaim := { program := "ytflgnhplbblokaagreatdoor", sum := "7a3e9dad08f89e4cdcbb0dc133195db4022106a3942d6560b6fda2b7df08f541", func := "cribble/cribblelaw21.UnsnapBlocks", spec := "unsnapBlocks", unfollowed := true, recurses := true, named := ["cribble/alg.table", "math/bits.divideError", "math/bits.overflowError", "bytes.ErrTooLarge"], apart := false, laid := [("cribble/alg.table", laid_cribble_alg_table), ("bytes.ErrTooLarge", laid_bytes_ErrTooLarge)], narrowed := true }
def UnsnapBlocksUptoSaid : Prop := unsnapBlocksUptoRow.holds Tryz.pinned (OpenSpec.upto unsnapBlocksSpec)

/-- 'cribblelaw21.UnsnapSponges', WHERE WHAT IT READS IS OF BULK AT MOST 1048576: true; the input reads as it did. -/
def unsnapSpongesUptoRow : OpenClaim := { program := "ytflgnhplbblokaagreatdoor", sum := "7a3e9dad08f89e4cdcbb0dc133195db4022106a3942d6560b6fda2b7df08f541", func := "cribble/cribblelaw21.UnsnapSponges", spec := "unsnapSponges", unfollowed := true, recurses := true, named := ["cribble/alg.table", "math/bits.divideError", "math/bits.overflowError", "bytes.ErrTooLarge"], apart := false, laid := [("cribble/alg.table", laid_cribble_alg_table), ("bytes.ErrTooLarge", laid_bytes_ErrTooLarge)], narrowed := true }
def UnsnapSpongesUptoSaid : Prop := unsnapSpongesUptoRow.holds Tryz.pinned (OpenSpec.upto unsnapSpongesSpec)

/-- 'cribblelaw21.UnsnapDead', WHERE WHAT IT READS IS OF BULK AT MOST 1048576: true; the input reads as it did. -/
def unsnapDeadUptoRow : OpenClaim := { program := "ytflgnhplbblokaagreatdoor", sum := "7a3e9dad08f89e4cdcbb0dc133195db4022106a3942d6560b6fda2b7df08f541", func := "cribble/cribblelaw21.UnsnapDead", spec := "unsnapDead", unfollowed := true, recurses := true, named := ["cribble/alg.table", "math/bits.divideError", "math/bits.overflowError", "bytes.ErrTooLarge"], apart := false, laid := [("cribble/alg.table", laid_cribble_alg_table), ("bytes.ErrTooLarge", laid_bytes_ErrTooLarge)], narrowed := true }
def UnsnapDeadUptoSaid : Prop := unsnapDeadUptoRow.holds Tryz.pinned (OpenSpec.upto unsnapDeadSpec)

/-- 'cribblelaw21.UnsnapOne', WHERE WHAT IT READS IS OF BULK AT MOST 1048576: true; the input reads as it did. -/
def unsnapOneUptoRow : OpenClaim := { program := "ytflgnhplbblokaagreatdoor", sum := "7a3e9dad08f89e4cdcbb0dc133195db4022106a3942d6560b6fda2b7df08f541", func := "cribble/cribblelaw21.UnsnapOne", spec := "unsnapOne", unfollowed := true, recurses := true, named := ["cribble/alg.table", "math/bits.divideError", "math/bits.overflowError", "bytes.ErrTooLarge"], apart := false, laid := [("cribble/alg.table", laid_cribble_alg_table), ("bytes.ErrTooLarge", laid_bytes_ErrTooLarge)], narrowed := true }
def UnsnapOneUptoSaid : Prop := unsnapOneUptoRow.holds Tryz.pinned (OpenSpec.upto unsnapOneSpec)

end Rows
end Go.Proofs.YtflgnhplbblokaaGreatDoor
