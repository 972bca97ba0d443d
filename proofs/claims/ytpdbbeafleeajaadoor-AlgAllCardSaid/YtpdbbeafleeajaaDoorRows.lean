/-
  NARROWER THAN 'FOR EVERY INPUT', by the rows' own cells (each row's printed sentence says how): AlgTable: laid · AlgFinds: laid · AlgAll: laid · AlgBack: laid.
  DERIVED. THE GIVEN ROWS OF THIS SEAT. 4 by the template 'for every input the law returns true; each argument reads behind the call as it read before'; 0 by the template 'total and deterministic' (their statements: YtpdbbeafleeajaaDoorTotals.lean).
  GIVEN WITH THE SEED: the statements are not yours to turn. If you find one false, say at which input.
  Laid BY PROGRAM, IN A SANDBOX (cutbox-rows.mjs): the forced cells as the released guide's own fill.sh prints them over the translation 2d30a0456d984bbb… (all of the seat's roots in one cut). By AI agents, Wed Nov 11 2026. No macro, syntax, notation, axiom, sorry.
-/
import Derived.Test.YtpdbbeafleeajaaDoorChecked
import GoSem.Claim
import GoSem.ClaimJoined
import GoSem.ClaimMapViews
import Derived.JoinedTies
import Derived.KernelRfl
namespace Go.Proofs.YtpdbbeafleeajaaDoor
/- THE CELL 'sum', in the pinned program and in every row, IS THE sha256 OF THE DUMP (.gsa) THAT YtpdbbeafleeajaaDoorProg.lean LOADS. Nothing in Lean hashes anything: it is a label: what it is worth is what the hold of that sum in a sandbox is worth. -/
noncomputable def Tryd.pinned : Pinned := { name := "ytpdbbeafleeajaadoor", sum := "2d30a0456d984bbb42139b3a0a1300c53a4483a5d5a8c945d94e9aa9de61bc04", checked := Tryd.checked }
namespace Rows
def none {H : Type} : Left H := { results := [], args := [] }

/- WHAT THE LISTED PACKAGE-LEVEL VARIABLES READ AS WHEN THE CALL BEGINS. Each datum BY PROGRAM (the guide's laid-datum.mjs) off the statement by which the dump's own 'gosem.cut.vars' lays the variable. In a bare row this is a premise. The card (YtpdbbeafleeajaaDoorCards.lean) ties it to the program's text. -/
def laid_cribble_alg_table {H : Type} : DataW H := .agg [.agg [.lit (.string []), .lit (.int .i64 0), .lit (.int .i64 0), .lit (.int .i64 0)], .agg [.lit (.string [115, 104, 97, 50, 50, 52]), .lit (.int .i64 1), .lit (.int .i64 28), .lit (.int .i64 64)], .agg [.lit (.string [115, 104, 97, 50, 53, 54]), .lit (.int .i64 1), .lit (.int .i64 32), .lit (.int .i64 64)], .agg [.lit (.string [115, 104, 97, 51, 56, 52]), .lit (.int .i64 1), .lit (.int .i64 48), .lit (.int .i64 128)], .agg [.lit (.string [115, 104, 97, 53, 49, 50]), .lit (.int .i64 1), .lit (.int .i64 64), .lit (.int .i64 128)], .agg [.lit (.string [115, 104, 97, 53, 49, 50, 45, 50, 50, 52]), .lit (.int .i64 1), .lit (.int .i64 28), .lit (.int .i64 128)], .agg [.lit (.string [115, 104, 97, 53, 49, 50, 45, 50, 53, 54]), .lit (.int .i64 1), .lit (.int .i64 32), .lit (.int .i64 128)], .agg [.lit (.string [115, 104, 97, 51, 45, 50, 50, 52]), .lit (.int .i64 2), .lit (.int .i64 28), .lit (.int .i64 144)], .agg [.lit (.string [115, 104, 97, 51, 45, 50, 53, 54]), .lit (.int .i64 2), .lit (.int .i64 32), .lit (.int .i64 136)], .agg [.lit (.string [115, 104, 97, 51, 45, 51, 56, 52]), .lit (.int .i64 2), .lit (.int .i64 48), .lit (.int .i64 104)], .agg [.lit (.string [115, 104, 97, 51, 45, 53, 49, 50]), .lit (.int .i64 2), .lit (.int .i64 64), .lit (.int .i64 72)], .agg [.lit (.string [115, 104, 97, 107, 101, 49, 50, 56]), .lit (.int .i64 3), .lit (.int .i64 32), .lit (.int .i64 168)], .agg [.lit (.string [115, 104, 97, 107, 101, 50, 53, 54]), .lit (.int .i64 3), .lit (.int .i64 64), .lit (.int .i64 136)], .agg [.lit (.string [99, 115, 104, 97, 107, 101, 49, 50, 56]), .lit (.int .i64 4), .lit (.int .i64 32), .lit (.int .i64 168)], .agg [.lit (.string [99, 115, 104, 97, 107, 101, 50, 53, 54]), .lit (.int .i64 4), .lit (.int .i64 64), .lit (.int .i64 136)]]

/-- 'cribblelaw18.AlgTable': WHATEVER THE INPUT: true; the input reads as it did. -/
def algTableSpec : ChangeSpec := { name := "algTable", fn := fun _ => fun
  | [d] => { results := [.lit (.bool true)], args := [d] }
  | _ => none }
def algTableRow : OpenClaim := { program := "ytpdbbeafleeajaadoor", sum := "2d30a0456d984bbb42139b3a0a1300c53a4483a5d5a8c945d94e9aa9de61bc04", func := "cribble/cribblelaw18.AlgTable", spec := "algTable", unfollowed := true, recurses := true, named := ["cribble/alg.table"], apart := false, laid := [("cribble/alg.table", laid_cribble_alg_table)] }
def AlgTableSaid : Prop := algTableRow.holds Tryd.pinned (OpenSpec.ofChange algTableSpec)

/-- ITS FALSE NEIGHBOUR: 'it returns false'. Refute it at one input. -/
def algTableWrong : ChangeSpec := { name := "algTable", fn := fun _ => fun
  | [d] => { results := [.lit (.bool false)], args := [d] }
  | _ => none }
def AlgTableWrongFalsely : Prop := algTableRow.holds Tryd.pinned (OpenSpec.ofChange algTableWrong)

/-- 'cribblelaw18.AlgFinds': WHATEVER THE INPUT: true; the input reads as it did. -/
def algFindsSpec : ChangeSpec := { name := "algFinds", fn := fun _ => fun
  | [d] => { results := [.lit (.bool true)], args := [d] }
  | _ => none }
def algFindsRow : OpenClaim := { program := "ytpdbbeafleeajaadoor", sum := "2d30a0456d984bbb42139b3a0a1300c53a4483a5d5a8c945d94e9aa9de61bc04", func := "cribble/cribblelaw18.AlgFinds", spec := "algFinds", unfollowed := true, recurses := true, named := ["cribble/alg.table"], apart := false, laid := [("cribble/alg.table", laid_cribble_alg_table)] }
def AlgFindsSaid : Prop := algFindsRow.holds Tryd.pinned (OpenSpec.ofChange algFindsSpec)

/-- ITS FALSE NEIGHBOUR: 'it returns false'. Refute it at one input. -/
def algFindsWrong : ChangeSpec := { name := "algFinds", fn := fun _ => fun
  | [d] => { results := [.lit (.bool false)], args := [d] }
  | _ => none }
def AlgFindsWrongFalsely : Prop := algFindsRow.holds Tryd.pinned (OpenSpec.ofChange algFindsWrong)

/-- 'cribblelaw18.AlgAll': WHATEVER THE INPUT: true; the input reads as it did. -/
def algAllSpec : ChangeSpec := { name := "algAll", fn := fun _ => fun
  | [d] => { results := [.lit (.bool true)], args := [d] }
  | _ => none }
def algAllRow : OpenClaim := { program := "ytpdbbeafleeajaadoor", sum := "2d30a0456d984bbb42139b3a0a1300c53a4483a5d5a8c945d94e9aa9de61bc04", func := "cribble/cribblelaw18.AlgAll", spec := "algAll", unfollowed := true, recurses := true, named := ["cribble/alg.table"], apart := false, laid := [("cribble/alg.table", laid_cribble_alg_table)] }
def AlgAllSaid : Prop := algAllRow.holds Tryd.pinned (OpenSpec.ofChange algAllSpec)

/-- ITS FALSE NEIGHBOUR: 'it returns false'. Refute it at one input. -/
def algAllWrong : ChangeSpec := { name := "algAll", fn := fun _ => fun
  | [d] => { results := [.lit (.bool false)], args := [d] }
  | _ => none }
def AlgAllWrongFalsely : Prop := algAllRow.holds Tryd.pinned (OpenSpec.ofChange algAllWrong)

/-- 'cribblelaw18.AlgBack': WHATEVER THE INPUT: true; the input reads as it did. -/
def algBackSpec : ChangeSpec := { name := "algBack", fn := fun _ => fun
  | [d1, d2] => { results := [.lit (.bool true)], args := [d1, d2] }
  | _ => none }
def algBackRow : OpenClaim := { program := "ytpdbbeafleeajaadoor", sum := "2d30a0456d984bbb42139b3a0a1300c53a4483a5d5a8c945d94e9aa9de61bc04", func := "cribble/cribblelaw18.AlgBack", spec := "algBack", unfollowed := true, recurses := true, named := ["cribble/alg.table"], apart := false, laid := [("cribble/alg.table", laid_cribble_alg_table)] }
def AlgBackSaid : Prop := algBackRow.holds Tryd.pinned (OpenSpec.ofChange algBackSpec)

/-- ITS FALSE NEIGHBOUR: 'it returns false'. Refute it at one input. -/
def algBackWrong : ChangeSpec := { name := "algBack", fn := fun _ => fun
  | [d1, d2] => { results := [.lit (.bool false)], args := [d1, d2] }
  | _ => none }
def AlgBackWrongFalsely : Prop := algBackRow.holds Tryd.pinned (OpenSpec.ofChange algBackWrong)

/- THE SECOND FORM. 'bulk': how many values and letters a reading holds, each counted each time it is reached (what is shared counts as often as it is met; a slice's spare places count too). A statement '..UptoSaid' is the law's where the arguments, and the package variables that the reading takes, are together of bulk at most 1048576: NARROWER than '..Said'. Prove '..Said' where nothing that the law and all that it calls make is longer than what came in: it says more and counts as full. Else prove '..UptoSaid'. A law counts once. -/
mutual
def uptoBulk {H : Type} : DataW H → Nat
  | .lit (.string bytes) => bytes.length + 1
  | .lit _ => 1
  | .nil => 1
  | .ptr d => uptoBulk d + 1
  | .slice elems spare => uptoBulkAll elems + uptoBulkAll spare + 1
  | .agg parts => uptoBulkAll parts + 1
  | .iface _ d => uptoBulk d + 1
  | .map entries => uptoBulkEntries entries + 1
  | .held _ => 1
def uptoBulkAll {H : Type} : List (DataW H) → Nat
  | [] => 0
  | d :: r => uptoBulk d + uptoBulkAll r
def uptoBulkEntries {H : Type} : List (Lit × DataW H) → Nat
  | [] => 0
  | x :: r => uptoBulkEntry x + uptoBulkEntries r
def uptoBulkEntry {H : Type} : Lit × DataW H → Nat
  | (.string bytes, d) => bytes.length + uptoBulk d + 1
  | (_, d) => uptoBulk d + 1
 end
def uptoSmall : (H : Type) → List (DataW H) → Bool := fun _ ds => decide (uptoBulkAll ds ≤ 1048576)
def OpenSpec.upto (s : _root_.Go.ChangeSpec) : _root_.Go.OpenSpec := { _root_.Go.OpenSpec.ofChange s with cond := some uptoSmall }

/-- 'cribblelaw18.AlgTable', WHERE WHAT IT READS IS OF BULK AT MOST 1048576: true; the input reads as it did. -/
def algTableUptoRow : OpenClaim := { program := "ytpdbbeafleeajaadoor", sum := "2d30a0456d984bbb42139b3a0a1300c53a4483a5d5a8c945d94e9aa9de61bc04", func := "cribble/cribblelaw18.AlgTable", spec := "algTable", unfollowed := true, recurses := true, named := ["cribble/alg.table"], apart := false, laid := [("cribble/alg.table", laid_cribble_alg_table)], narrowed := true }
def AlgTableUptoSaid : Prop := algTableUptoRow.holds Tryd.pinned (OpenSpec.upto algTableSpec)

/-- 'cribblelaw18.AlgFinds', WHERE WHAT IT READS IS OF BULK AT MOST 1048576: true; the input reads as it did. -/
def algFindsUptoRow : OpenClaim := { program := "ytpdbbeafleeajaadoor", sum := "2d30a0456d984bbb42139b3a0a1300c53a4483a5d5a8c945d94e9aa9de61bc04", func := "cribble/cribblelaw18.AlgFinds", spec := "algFinds", unfollowed := true, recurses := true, named := ["cribble/alg.table"], apart := false, laid := [("cribble/alg.table", laid_cribble_alg_table)], narrowed := true }
def AlgFindsUptoSaid : Prop := algFindsUptoRow.holds Tryd.pinned (OpenSpec.upto algFindsSpec)

/-- 'cribblelaw18.AlgAll', WHERE WHAT IT READS IS OF BULK AT MOST 1048576: true; the input reads as it did. -/
def algAllUptoRow : OpenClaim := { program := "ytpdbbeafleeajaadoor", sum := "2d30a0456d984bbb42139b3a0a1300c53a4483a5d5a8c945d94e9aa9de61bc04", func := "cribble/cribblelaw18.AlgAll", spec := "algAll", unfollowed := true, recurses := true, named := ["cribble/alg.table"], apart := false, laid := [("cribble/alg.table", laid_cribble_alg_table)], narrowed := true }
def AlgAllUptoSaid : Prop := algAllUptoRow.holds Tryd.pinned (OpenSpec.upto algAllSpec)

/-- 'cribblelaw18.AlgBack', WHERE WHAT IT READS IS OF BULK AT MOST 1048576: true; the input reads as it did. -/
def algBackUptoRow : OpenClaim := { program := "ytpdbbeafleeajaadoor", sum := "2d30a0456d984bbb42139b3a0a1300c53a4483a5d5a8c945d94e9aa9de61bc04", func := "cribble/cribblelaw18.AlgBack", spec := "algBack", unfollowed := true, recurses := true, named := ["cribble/alg.table"], apart := false, laid := [("cribble/alg.table", laid_cribble_alg_table)], narrowed := true }
def AlgBackUptoSaid : Prop := algBackUptoRow.holds Tryd.pinned (OpenSpec.upto algBackSpec)

end Rows
end Go.Proofs.YtpdbbeafleeajaaDoor
