/-
  No cell of these rows narrows 'for every input' (looked for: loops, veiled, ifaces, maps, wideKeys, modest, calm, conditions, laid).
  DERIVED. THE GIVEN ROWS OF THIS SEAT. 4 by the template 'for every input the law returns true; each argument reads behind the call as it read before'; 0 by the template 'total and deterministic' (their statements: YtmnfgeceicoleaaTotals.lean).
  GIVEN WITH THE SEED: the statements are not yours to turn. If you find one false, say at which input.
  Laid BY PROGRAM, IN A SANDBOX (cutbox-rows.mjs): the forced cells as the released guide's own fill.sh prints them over the translation bc4014b06be034c7… (all of the seat's roots in one cut). By AI agents, Wed Nov 11 2026. No macro, syntax, notation, axiom, sorry.
-/
import Derived.Test.YtmnfgeceicoleaaChecked
import GoSem.Claim
import GoSem.ClaimJoined
import GoSem.ClaimMapViews
import Derived.JoinedTies
import Derived.KernelRfl
namespace Go.Proofs.Ytmnfgeceicoleaa
/- THE CELL 'sum', in the pinned program and in every row, IS THE sha256 OF THE DUMP (.gsa) THAT YtmnfgeceicoleaaProg.lean LOADS. Nothing in Lean hashes anything: it is a label: what it is worth is what the hold of that sum in a sandbox is worth. -/
noncomputable def Try.pinned : Pinned := { name := "ytmnfgeceicoleaa", sum := "bc4014b06be034c73aeb21c8f46a7b6514ab01531edbc8dd180f63d5ffc990e9", checked := Try.checked }
namespace Rows
def none {H : Type} : Left H := { results := [], args := [] }

/-- 'cribblelaw03.LoadWords': WHATEVER THE INPUT: true; the input reads as it did. -/
def loadWordsSpec : ChangeSpec := { name := "loadWords", fn := fun _ => fun
  | [d] => { results := [.lit (.bool true)], args := [d] }
  | _ => none }
def loadWordsRow : OpenClaim := { program := "ytmnfgeceicoleaa", sum := "bc4014b06be034c73aeb21c8f46a7b6514ab01531edbc8dd180f63d5ffc990e9", func := "cribble/cribblelaw03.LoadWords", spec := "loadWords", unfollowed := true, recurses := true, apart := false }
def LoadWordsSaid : Prop := loadWordsRow.holds Try.pinned (OpenSpec.ofChange loadWordsSpec)

/-- ITS FALSE NEIGHBOUR: 'it returns false'. Refute it at one input. -/
def loadWordsWrong : ChangeSpec := { name := "loadWords", fn := fun _ => fun
  | [d] => { results := [.lit (.bool false)], args := [d] }
  | _ => none }
def LoadWordsWrongFalsely : Prop := loadWordsRow.holds Try.pinned (OpenSpec.ofChange loadWordsWrong)

/-- 'cribblelaw03.LoadPuts': WHATEVER THE INPUT: true; the input reads as it did. -/
def loadPutsSpec : ChangeSpec := { name := "loadPuts", fn := fun _ => fun
  | [d] => { results := [.lit (.bool true)], args := [d] }
  | _ => none }
def loadPutsRow : OpenClaim := { program := "ytmnfgeceicoleaa", sum := "bc4014b06be034c73aeb21c8f46a7b6514ab01531edbc8dd180f63d5ffc990e9", func := "cribble/cribblelaw03.LoadPuts", spec := "loadPuts", unfollowed := true, recurses := true, apart := false }
def LoadPutsSaid : Prop := loadPutsRow.holds Try.pinned (OpenSpec.ofChange loadPutsSpec)

/-- ITS FALSE NEIGHBOUR: 'it returns false'. Refute it at one input. -/
def loadPutsWrong : ChangeSpec := { name := "loadPuts", fn := fun _ => fun
  | [d] => { results := [.lit (.bool false)], args := [d] }
  | _ => none }
def LoadPutsWrongFalsely : Prop := loadPutsRow.holds Try.pinned (OpenSpec.ofChange loadPutsWrong)

/-- 'cribblelaw03.LoadXors': WHATEVER THE INPUT: true; the input reads as it did. -/
def loadXorsSpec : ChangeSpec := { name := "loadXors", fn := fun _ => fun
  | [d1, d2] => { results := [.lit (.bool true)], args := [d1, d2] }
  | _ => none }
def loadXorsRow : OpenClaim := { program := "ytmnfgeceicoleaa", sum := "bc4014b06be034c73aeb21c8f46a7b6514ab01531edbc8dd180f63d5ffc990e9", func := "cribble/cribblelaw03.LoadXors", spec := "loadXors", unfollowed := true, recurses := true, apart := false }
def LoadXorsSaid : Prop := loadXorsRow.holds Try.pinned (OpenSpec.ofChange loadXorsSpec)

/-- ITS FALSE NEIGHBOUR: 'it returns false'. Refute it at one input. -/
def loadXorsWrong : ChangeSpec := { name := "loadXors", fn := fun _ => fun
  | [d1, d2] => { results := [.lit (.bool false)], args := [d1, d2] }
  | _ => none }
def LoadXorsWrongFalsely : Prop := loadXorsRow.holds Try.pinned (OpenSpec.ofChange loadXorsWrong)

/-- 'cribblelaw03.LoadTurns': WHATEVER THE INPUT: true; the input reads as it did. -/
def loadTurnsSpec : ChangeSpec := { name := "loadTurns", fn := fun _ => fun
  | [d] => { results := [.lit (.bool true)], args := [d] }
  | _ => none }
def loadTurnsRow : OpenClaim := { program := "ytmnfgeceicoleaa", sum := "bc4014b06be034c73aeb21c8f46a7b6514ab01531edbc8dd180f63d5ffc990e9", func := "cribble/cribblelaw03.LoadTurns", spec := "loadTurns", unfollowed := true, recurses := true, apart := false }
def LoadTurnsSaid : Prop := loadTurnsRow.holds Try.pinned (OpenSpec.ofChange loadTurnsSpec)

/-- ITS FALSE NEIGHBOUR: 'it returns false'. Refute it at one input. -/
def loadTurnsWrong : ChangeSpec := { name := "loadTurns", fn := fun _ => fun
  | [d] => { results := [.lit (.bool false)], args := [d] }
  | _ => none }
def LoadTurnsWrongFalsely : Prop := loadTurnsRow.holds Try.pinned (OpenSpec.ofChange loadTurnsWrong)

/- THE SECOND FORM. 'bulk': how many values and letters a reading holds, each counted each time it is reached (what is shared counts as often as it is met; a slice's spare places count too). A statement '..UptoSaid' is the law's where the arguments, and the package variables that the reading takes, are together of bulk at most 1048576: NARROWER than '..Said'. Prove '..Said' where nothing that the law and all that it calls make is longer than what came in: it says more and counts as full. Else prove '..UptoSaid'. A law counts once. -/
mutual
def uptoBulk {H : Type} : DataW H → Nat
  | .lit (.string bytes) => bytes.length + 1
  | .lit _ => 1
  | .nil => 1
  | .ptr d => uptoBulk d + 1
  | .slice elems spare => uptoBulkAll elems + uptoBulkAll spare + 1
  | .agg parts => uptoBulkAll parts + 1
  | .iface _ d => uptoBulk d + 1
  | .map entries => uptoBulkEntries entries + 1
  | .held _ => 1
def uptoBulkAll {H : Type} : List (DataW H) → Nat
  | [] => 0
  | d :: r => uptoBulk d + uptoBulkAll r
def uptoBulkEntries {H : Type} : List (Lit × DataW H) → Nat
  | [] => 0
  | x :: r => uptoBulkEntry x + uptoBulkEntries r
def uptoBulkEntry {H : Type} : Lit × DataW H → Nat
  | (.string bytes, d) => bytes.length + uptoBulk d + 1
  | (_, d) => uptoBulk d + 1
 end
def uptoSmall : (H : Type) → List (DataW H) → Bool := fun _ ds => decide (uptoBulkAll ds ≤ 1048576)
def OpenSpec.upto (s : _root_.Go.ChangeSpec) : _root_.Go.OpenSpec := { _root_.Go.OpenSpec.ofChange s with cond := some uptoSmall }

/-- 'cribblelaw03.LoadWords', WHERE WHAT IT READS IS OF BULK AT MOST 1048576: true; the input reads as it did. -/
def loadWordsUptoRow : OpenClaim := { program := "ytmnfgeceicoleaa", sum := "bc4014b06be034c73aeb21c8f46a7b6514ab01531edbc8dd180f63d5ffc990e9", func := "cribble/cribblelaw03.LoadWords", spec := "loadWords", unfollowed := true, recurses := true, apart := false, narrowed := true }
def LoadWordsUptoSaid : Prop := loadWordsUptoRow.holds Try.pinned (OpenSpec.upto loadWordsSpec)

/-- 'cribblelaw03.LoadPuts', WHERE WHAT IT READS IS OF BULK AT MOST 1048576: true; the input reads as it did. -/
def loadPutsUptoRow : OpenClaim := { program := "ytmnfgeceicoleaa", sum := "bc4014b06be034c73aeb21c8f46a7b6514ab01531edbc8dd180f63d5ffc990e9", func := "cribble/cribblelaw03.LoadPuts", spec := "loadPuts", unfollowed := true, recurses := true, apart := false, narrowed := true }
def LoadPutsUptoSaid : Prop := loadPutsUptoRow.holds Try.pinned (OpenSpec.upto loadPutsSpec)

/-- 'cribblelaw03.LoadXors', WHERE WHAT IT READS IS OF BULK AT MOST 1048576: true; the input reads as it did. -/
def loadXorsUptoRow : OpenClaim := { program := "ytmnfgeceicoleaa", sum := "bc4014b06be034c73aeb21c8f46a7b6514ab01531edbc8dd180f63d5ffc990e9", func := "cribble/cribblelaw03.LoadXors", spec := "loadXors", unfollowed := true, recurses := true, apart := false, narrowed := true }
def LoadXorsUptoSaid : Prop := loadXorsUptoRow.holds Try.pinned (OpenSpec.upto loadXorsSpec)

/-- 'cribblelaw03.LoadTurns', WHERE WHAT IT READS IS OF BULK AT MOST 1048576: true; the input reads as it did. -/
def loadTurnsUptoRow : OpenClaim := { program := "ytmnfgeceicoleaa", sum := "bc4014b06be034c73aeb21c8f46a7b6514ab01531edbc8dd180f63d5ffc990e9", func := "cribble/cribblelaw03.LoadTurns", spec := "loadTurns", unfollowed := true, recurses := true, apart := false, narrowed := true }
def LoadTurnsUptoSaid : Prop := loadTurnsUptoRow.holds Try.pinned (OpenSpec.upto loadTurnsSpec)

end Rows
end Go.Proofs.Ytmnfgeceicoleaa
