/-
  NARROWER THAN 'FOR EVERY INPUT', by the rows' own cells (each row's printed sentence says how): SnapBlocks: laid · SnapSponges: laid · SnapSizes: laid · SnapApart: laid · SnapFlags: laid.
  DERIVED. THE GIVEN ROWS OF THIS SEAT. 5 by the template 'for every input the law returns true; each argument reads behind the call as it read before'; 0 by the template 'total and deterministic' (their statements: YteiemboopkbdpaaDoorTotals.lean).
  GIVEN WITH THE SEED: the statements are not yours to turn. If you find one false, say at which input.
  Laid BY PROGRAM, IN A SANDBOX (cutbox-rows.mjs): the forced cells as the released guide's own fill.sh prints them over the translation 2595992f737247e4… (all of the seat's roots in one cut). By AI agents, Wed Nov 11 2026. No macro, syntax, notation, axiom, sorry.
-/
import Derived.Test.YteiemboopkbdpaaDoorChecked
import GoSem.Claim
import GoSem.ClaimJoined
import GoSem.ClaimMapViews
import Derived.JoinedTies
import Derived.KernelRfl
namespace Go.Proofs.YteiemboopkbdpaaDoor
/- THE CELL 'sum', in the pinned program and in every row, IS THE sha256 OF THE DUMP (.gsa) THAT YteiemboopkbdpaaDoorProg.lean LOADS. Nothing in Lean hashes anything: it is a label: what it is worth is what the hold of that sum in a sandbox is worth. -/
noncomputable def Tryd.pinned : Pinned := { name := "yteiemboopkbdpaadoor", sum := "2595992f737247e40cda1ef08a45882d7cb5b0d363473a4a7d24c2e6f5c61455", checked := Tryd.checked }
namespace Rows
def none {H : Type} : Left H := { results := [], args := [] }

/- WHAT THE LISTED PACKAGE-LEVEL VARIABLES READ AS WHEN THE CALL BEGINS. Each datum BY PROGRAM (the guide's laid-datum.mjs) off the statement by which the dump's own 'gosem.cut.vars' lays the variable. In a bare row this is a premise. The card (YteiemboopkbdpaaDoorCards.lean) ties it to the program's text. -/
def laid_cribble_alg_table {H : Type} : DataW H := .agg [.agg [.lit (.string []), .lit (.int .i64 0), .lit (.int .i64 0), .lit (.int .i64 0)], .agg [.lit (.string [115, 104, 97, 50, 50, 52]), .lit (.int .i64 1), .lit (.int .i64 28), .lit (.int .i64 64)], .agg [.lit (.string [115, 104, 97, 50, 53, 54]), .lit (.int .i64 1), .lit (.int .i64 32), .lit (.int .i64 64)], .agg [.lit (.string [115, 104, 97, 51, 56, 52]), .lit (.int .i64 1), .lit (.int .i64 48), .lit (.int .i64 128)], .agg [.lit (.string [115, 104, 97, 53, 49, 50]), .lit (.int .i64 1), .lit (.int .i64 64), .lit (.int .i64 128)], .agg [.lit (.string [115, 104, 97, 53, 49, 50, 45, 50, 50, 52]), .lit (.int .i64 1), .lit (.int .i64 28), .lit (.int .i64 128)], .agg [.lit (.string [115, 104, 97, 53, 49, 50, 45, 50, 53, 54]), .lit (.int .i64 1), .lit (.int .i64 32), .lit (.int .i64 128)], .agg [.lit (.string [115, 104, 97, 51, 45, 50, 50, 52]), .lit (.int .i64 2), .lit (.int .i64 28), .lit (.int .i64 144)], .agg [.lit (.string [115, 104, 97, 51, 45, 50, 53, 54]), .lit (.int .i64 2), .lit (.int .i64 32), .lit (.int .i64 136)], .agg [.lit (.string [115, 104, 97, 51, 45, 51, 56, 52]), .lit (.int .i64 2), .lit (.int .i64 48), .lit (.int .i64 104)], .agg [.lit (.string [115, 104, 97, 51, 45, 53, 49, 50]), .lit (.int .i64 2), .lit (.int .i64 64), .lit (.int .i64 72)], .agg [.lit (.string [115, 104, 97, 107, 101, 49, 50, 56]), .lit (.int .i64 3), .lit (.int .i64 32), .lit (.int .i64 168)], .agg [.lit (.string [115, 104, 97, 107, 101, 50, 53, 54]), .lit (.int .i64 3), .lit (.int .i64 64), .lit (.int .i64 136)], .agg [.lit (.string [99, 115, 104, 97, 107, 101, 49, 50, 56]), .lit (.int .i64 4), .lit (.int .i64 32), .lit (.int .i64 168)], .agg [.lit (.string [99, 115, 104, 97, 107, 101, 50, 53, 54]), .lit (.int .i64 4), .lit (.int .i64 64), .lit (.int .i64 136)]]
def laid_bytes_ErrTooLarge {H : Type} : DataW H := .iface "*errors.errorString" (.ptr (.agg [.lit (.string [98, 121, 116, 101, 115, 46, 66, 117, 102, 102, 101, 114, 58, 32, 116, 111, 111, 32, 108, 97, 114, 103, 101])]))

/-- 'cribblelaw20.SnapBlocks': WHATEVER THE INPUT: true; the input reads as it did. -/
def snapBlocksSpec : ChangeSpec := { name := "snapBlocks", fn := fun _ => fun
  | [d] => { results := [.lit (.bool true)], args := [d] }
  | _ => none }
def snapBlocksRow : OpenClaim := { program := "yteiemboopkbdpaadoor", sum := "2595992f737247e40cda1ef08a45882d7cb5b0d363473a4a7d24c2e6f5c61455", func := "cribble/cribblelaw20.SnapBlocks", spec := "snapBlocks", unfollowed := true, recurses := true, named := ["cribble/alg.table", "bytes.ErrTooLarge"], apart := false, laid := [("cribble/alg.table", laid_cribble_alg_table), ("bytes.ErrTooLarge", laid_bytes_ErrTooLarge)] }
def SnapBlocksSaid : Prop := snapBlocksRow.holds Tryd.pinned (OpenSpec.ofChange snapBlocksSpec)

/-- ITS FALSE NEIGHBOUR: 'it returns false'. Refute it at one input. -/
def snapBlocksWrong : ChangeSpec := { name := "snapBlocks", fn := fun _ => fun
  | [d] => { results := [.lit (.bool false)], args := [d] }
  | _ => none }
def SnapBlocksWrongFalsely : Prop := snapBlocksRow.holds Tryd.pinned (OpenSpec.ofChange snapBlocksWrong)

/-- 'cribblelaw20.SnapSponges': WHATEVER THE INPUT: true; the input reads as it did. -/
def snapSpongesSpec : ChangeSpec := { name := "snapSponges", fn := fun _ => fun
  | [d] => { results := [.lit (.bool true)], args := [d] }
  | _ => none }
def snapSpongesRow : OpenClaim := { program := "yteiemboopkbdpaadoor", sum := "2595992f737247e40cda1ef08a45882d7cb5b0d363473a4a7d24c2e6f5c61455", func := "cribble/cribblelaw20.SnapSponges", spec := "snapSponges", unfollowed := true, recurses := true, named := ["cribble/alg.table", "bytes.ErrTooLarge"], apart := false, laid := [("cribble/alg.table", laid_cribble_alg_table), ("bytes.ErrTooLarge", laid_bytes_ErrTooLarge)] }
def SnapSpongesSaid : Prop := snapSpongesRow.holds Tryd.pinned (OpenSpec.ofChange snapSpongesSpec)

/-- ITS FALSE NEIGHBOUR: 'it returns false'. Refute it at one input. -/
def snapSpongesWrong : ChangeSpec := { name := "snapSponges", fn := fun _ => fun
  | [d] => { results := [.lit (.bool false)], args := [d] }
  | _ => none }
def SnapSpongesWrongFalsely : Prop := snapSpongesRow.holds Tryd.pinned (OpenSpec.ofChange snapSpongesWrong)

/-- 'cribblelaw20.SnapSizes': WHATEVER THE INPUT: true; the input reads as it did. -/
def snapSizesSpec : ChangeSpec := { name := "snapSizes", fn := fun _ => fun
  | [d1, d2] => { results := [.lit (.bool true)], args := [d1, d2] }
  | _ => none }
def snapSizesRow : OpenClaim := { program := "yteiemboopkbdpaadoor", sum := "2595992f737247e40cda1ef08a45882d7cb5b0d363473a4a7d24c2e6f5c61455", func := "cribble/cribblelaw20.SnapSizes", spec := "snapSizes", unfollowed := true, recurses := true, named := ["cribble/alg.table", "bytes.ErrTooLarge"], apart := false, laid := [("cribble/alg.table", laid_cribble_alg_table), ("bytes.ErrTooLarge", laid_bytes_ErrTooLarge)] }
def SnapSizesSaid : Prop := snapSizesRow.holds Tryd.pinned (OpenSpec.ofChange snapSizesSpec)

/-- ITS FALSE NEIGHBOUR: 'it returns false'. Refute it at one input. -/
def snapSizesWrong : ChangeSpec := { name := "snapSizes", fn := fun _ => fun
  | [d1, d2] => { results := [.lit (.bool false)], args := [d1, d2] }
  | _ => none }
def SnapSizesWrongFalsely : Prop := snapSizesRow.holds Tryd.pinned (OpenSpec.ofChange snapSizesWrong)

/-- 'cribblelaw20.SnapApart': WHATEVER THE INPUT: true; the input reads as it did. -/
def snapApartSpec : ChangeSpec := { name := "snapApart", fn := fun _ => fun
  | [d] => { results := [.lit (.bool true)], args := [d] }
  | _ => none }
def snapApartRow : OpenClaim := { program := "yteiemboopkbdpaadoor", sum := "2595992f737247e40cda1ef08a45882d7cb5b0d363473a4a7d24c2e6f5c61455", func := "cribble/cribblelaw20.SnapApart", spec := "snapApart", unfollowed := true, recurses := true, named := ["cribble/alg.table", "bytes.ErrTooLarge"], apart := false, laid := [("cribble/alg.table", laid_cribble_alg_table), ("bytes.ErrTooLarge", laid_bytes_ErrTooLarge)] }
def SnapApartSaid : Prop := snapApartRow.holds Tryd.pinned (OpenSpec.ofChange snapApartSpec)

/-- ITS FALSE NEIGHBOUR: 'it returns false'. Refute it at one input. -/
def snapApartWrong : ChangeSpec := { name := "snapApart", fn := fun _ => fun
  | [d] => { results := [.lit (.bool false)], args := [d] }
  | _ => none }
def SnapApartWrongFalsely : Prop := snapApartRow.holds Tryd.pinned (OpenSpec.ofChange snapApartWrong)

/-- 'cribblelaw20.SnapFlags': WHATEVER THE INPUT: true; the input reads as it did. -/
def snapFlagsSpec : ChangeSpec := { name := "snapFlags", fn := fun _ => fun
  | [d] => { results := [.lit (.bool true)], args := [d] }
  | _ => none }
def snapFlagsRow : OpenClaim := { program := "yteiemboopkbdpaadoor", sum := "2595992f737247e40cda1ef08a45882d7cb5b0d363473a4a7d24c2e6f5c61455", func := "cribble/cribblelaw20.SnapFlags", spec := "snapFlags", unfollowed := true, recurses := true, named := ["cribble/alg.table", "bytes.ErrTooLarge"], apart := false, laid := [("cribble/alg.table", laid_cribble_alg_table), ("bytes.ErrTooLarge", laid_bytes_ErrTooLarge)] }
def SnapFlagsSaid : Prop := snapFlagsRow.holds Tryd.pinned (OpenSpec.ofChange snapFlagsSpec)

/-- ITS FALSE NEIGHBOUR: 'it returns false'. Refute it at one input. -/
def snapFlagsWrong : ChangeSpec := { name := "snapFlags", fn := fun _ => fun
  | [d] => { results := [.lit (.bool false)], args := [d] }
  | _ => none }
def SnapFlagsWrongFalsely : Prop := snapFlagsRow.holds Tryd.pinned (OpenSpec.ofChange snapFlagsWrong)

/- THE SECOND FORM. 'bulk': how many values and letters a reading holds, each counted each time it is reached (what is shared counts as often as it is met; a slice's spare places count too). A statement '..UptoSaid' is the law's where the arguments, and the package variables that the reading takes, are together of bulk at most 1048576: NARROWER than '..Said'. Prove '..Said' where nothing that the law and all that it calls make is longer than what came in: it says more and counts as full. Else prove '..UptoSaid'. A law counts once. -/
mutual
def uptoBulk {H : Type} : DataW H → Nat
  | .lit (.string bytes) => bytes.length + 1
  | .lit _ => 1
  | .nil => 1
  | .ptr d => uptoBulk d + 1
  | .slice elems spare => uptoBulkAll elems + uptoBulkAll spare + 1
  | .agg parts => uptoBulkAll parts + 1
  | .iface _ d => uptoBulk d + 1
  | .map entries => uptoBulkEntries entries + 1
  | .held _ => 1
def uptoBulkAll {H : Type} : List (DataW H) → Nat
  | [] => 0
  | d :: r => uptoBulk d + uptoBulkAll r
def uptoBulkEntries {H : Type} : List (Lit × DataW H) → Nat
  | [] => 0
  | x :: r => uptoBulkEntry x + uptoBulkEntries r
def uptoBulkEntry {H : Type} : Lit × DataW H → Nat
  | (.string bytes, d) => bytes.length + uptoBulk d + 1
  | (_, d) => uptoBulk d + 1
 end
def uptoSmall : (H : Type) → List (DataW H) → Bool := fun _ ds => decide (uptoBulkAll ds ≤ 1048576)
def OpenSpec.upto (s : _root_.Go.ChangeSpec) : _root_.Go.OpenSpec := { _root_.Go.OpenSpec.ofChange s with cond := some uptoSmall }

/-- 'cribblelaw20.SnapBlocks', WHERE WHAT IT READS IS OF BULK AT MOST 1048576: true; the input reads as it did. -/
def snapBlocksUptoRow : OpenClaim := { program := "yteiemboopkbdpaadoor", sum := "2595992f737247e40cda1ef08a45882d7cb5b0d363473a4a7d24c2e6f5c61455", func := "cribble/cribblelaw20.SnapBlocks", spec := "snapBlocks", unfollowed := true, recurses := true, named := ["cribble/alg.table", "bytes.ErrTooLarge"], apart := false, laid := [("cribble/alg.table", laid_cribble_alg_table), ("bytes.ErrTooLarge", laid_bytes_ErrTooLarge)], narrowed := true }
def SnapBlocksUptoSaid : Prop := snapBlocksUptoRow.holds Tryd.pinned (OpenSpec.upto snapBlocksSpec)

/-- 'cribblelaw20.SnapSponges', WHERE WHAT IT READS IS OF BULK AT MOST 1048576: true; the input reads as it did. -/
def snapSpongesUptoRow : OpenClaim := { program := "yteiemboopkbdpaadoor", sum := "2595992f737247e40cda1ef08a45882d7cb5b0d363473a4a7d24c2e6f5c61455", func := "cribble/cribblelaw20.SnapSponges", spec := "snapSponges", unfollowed := true, recurses := true, named := ["cribble/alg.table", "bytes.ErrTooLarge"], apart := false, laid := [("cribble/alg.table", laid_cribble_alg_table), ("bytes.ErrTooLarge", laid_bytes_ErrTooLarge)], narrowed := true }
def SnapSpongesUptoSaid : Prop := snapSpongesUptoRow.holds Tryd.pinned (OpenSpec.upto snapSpongesSpec)

/-- 'cribblelaw20.SnapSizes', WHERE WHAT IT READS IS OF BULK AT MOST 1048576: true; the input reads as it did. -/
def snapSizesUptoRow : OpenClaim := { program := "yteiemboopkbdpaadoor", sum := "2595992f737247e40cda1ef08a45882d7cb5b0d363473a4a7d24c2e6f5c61455", func := "cribble/cribblelaw20.SnapSizes", spec := "snapSizes", unfollowed := true, recurses := true, named := ["cribble/alg.table", "bytes.ErrTooLarge"], apart := false, laid := [("cribble/alg.table", laid_cribble_alg_table), ("bytes.ErrTooLarge", laid_bytes_ErrTooLarge)], narrowed := true }
def SnapSizesUptoSaid : Prop := snapSizesUptoRow.holds Tryd.pinned (OpenSpec.upto snapSizesSpec)

/-- 'cribblelaw20.SnapApart', WHERE WHAT IT READS IS OF BULK AT MOST 1048576: true; the input reads as it did. -/
def snapApartUptoRow : OpenClaim := { program := "yteiemboopkbdpaadoor", sum := "2595992f737247e40cda1ef08a45882d7cb5b0d363473a4a7d24c2e6f5c61455", func := "cribble/cribblelaw20.SnapApart", spec := "snapApart", unfollowed := true, recurses := true, named := ["cribble/alg.table", "bytes.ErrTooLarge"], apart := false, laid := [("cribble/alg.table", laid_cribble_alg_table), ("bytes.ErrTooLarge", laid_bytes_ErrTooLarge)], narrowed := true }
def SnapApartUptoSaid : Prop := snapApartUptoRow.holds Tryd.pinned (OpenSpec.upto snapApartSpec)

/-- 'cribblelaw20.SnapFlags', WHERE WHAT IT READS IS OF BULK AT MOST 1048576: true; the input reads as it did. -/
def snapFlagsUptoRow : OpenClaim := { program := "yteiemboopkbdpaadoor", sum := "2595992f737247e40cda1ef08a45882d7cb5b0d363473a4a7d24c2e6f5c61455", func := "cribble/cribblelaw20.SnapFlags", spec := "snapFlags", unfollowed := true, recurses := true, named := ["cribble/alg.table", "bytes.ErrTooLarge"], apart := false, laid := [("cribble/alg.table", laid_cribble_alg_table), ("bytes.ErrTooLarge", laid_bytes_ErrTooLarge)], narrowed := true }
def SnapFlagsUptoSaid : Prop := snapFlagsUptoRow.holds Tryd.pinned (OpenSpec.upto snapFlagsSpec)

end Rows
end Go.Proofs.YteiemboopkbdpaaDoor
